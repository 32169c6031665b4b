/- Walk over fescuelaw03.TypesTells. -/
import Derived.Test.YtgimdoagccpcdaaTyLK
namespace Go.Proofs.Ytgimdoagccpcdaa.TyLT
open Go.RowKit Go.Lib Go.Shelf SetP IntO TyM TyP TyB TyC TyD TyE TyS TyF TyH TyK TyQ TyRB TyRC TyRD TyRE TyRT TyT TyW TyLA TyN TyLK

/-- rows that a call owns and spoils -/
def MutT (B : Nat) (v : Value) (r : List Row) (w : World) : Prop :=
  w.ownsRow B 24 4 v r.length (rowVals r) ∧ ∀ x ∈ r, ∃ m xs, w.ownsRow B 3 1 x.2 m xs
theorem MutT.of {B : Nat} {v : Value} {r : List Row} {w : World} (h : OwnT B v r w) : MutT B v r w := ⟨h.1, fun x hx => ⟨_, _, h.2 x hx⟩⟩
theorem MutT.below {B : Nat} {v : Value} {r : List Row} {w w' : World} (h : MutT B v r w) (hb : Below w.heap.size w w') : MutT B v r w' :=
  ⟨ownsRow_below h.1 hb, fun x hx => by obtain ⟨m, xs, hx⟩ := h.2 x hx; exact ⟨m, xs, ownsRow_below hx hb⟩⟩

/-- a number stored into one of the rows -/
theorem mut_part {B g j n m c c2 : Nat} {r : List Row} {w : World} {u : Value} {xs : List Value} (h : MutT B (.slice (some ⟨g, 0, none⟩) n c) r w) (hn : n = r.length) {p : Nat} (hp : w.ownsRow B 3 1 (.slice (some ⟨p, 0, none⟩) m c2) m xs) :
    MutT B (.slice (some ⟨g, 0, none⟩) n c) r (w.setCell ⟨p, j, none⟩ u) := by
  have hgr : w.grownBy (w.setCell ⟨p, j, none⟩ u) (some p) := ⟨rfl, rfl, rfl, (by simp [World.setCell]), fun k hk hne => Below.heap_setCell _ _ _ k (fun e => hne (by rw [e]))⟩
  subst hn
  refine ⟨h.1.kept hgr (.inr (own_ne h.1 hp (by decide))), fun x hx => ?_⟩
  obtain ⟨m2, ys, hy⟩ := h.2 x hx
  by_cases hb : x.2.ownBlock = some p
  · rcases hy.2 with ⟨he, _⟩ | ⟨g2, c3, cur, he, _⟩
    · rw [he] at hb; cases hb
    · rw [he] at hb hy ⊢
      have e : g2 = p := by simpa [Value.ownBlock] using hb
      subst e
      exact ⟨m2, _, (hy.stored j u).1⟩
  · exact ⟨m2, ys, hy.kept hgr (.inr hb)⟩
theorem vals_kind : ∀ (r : List Row) (k : Nat) (h : k < r.length) (q : Int), (rowVals r).set (k * 4) (.int .u8 q) = rowVals (r.set k (⟨q, r[k].1.elem, r[k].1.many, r[k].1.parts⟩, r[k].2))
  | x :: r, 0, _, q => by simp [rowVals]
  | x :: r, k + 1, h, q => by
    have ih := vals_kind r k (by simpa using h) q
    have ea : ∀ (z : Row) (l : List Row), rowVals (z :: l) = .int .u8 z.1.kind :: .int .i64 z.1.elem :: .int .i64 z.1.many :: z.2 :: rowVals l := fun z l => by simp [rowVals]
    rw [ea, show (k + 1) * 4 = (k * 4) + 1 + 1 + 1 + 1 by omega]
    simp only [List.set_cons_succ, List.getElem_cons_succ]
    rw [ea, ih]
/-- a kind stored -/
theorem mut_kind {B g n c : Nat} {r : List Row} {w : World} (h : MutT B (.slice (some ⟨g, 0, none⟩) n c) r w) (hn : n = r.length) (k : Nat) (hk : k < r.length) (q : Int) :
    ∃ r', r'.length = n ∧ MutT B (.slice (some ⟨g, 0, none⟩) n c) r' (w.setCell ⟨g, k * 4, none⟩ (.int .u8 q)) := by
  subst hn
  obtain ⟨h1, hgr⟩ := h.1.stored (k * 4) (.int .u8 q)
  refine ⟨r.set k (⟨q, r[k].1.elem, r[k].1.many, r[k].1.parts⟩, r[k].2), by simp, ?_, fun x hx => ?_⟩
  · rw [vals_kind r k hk] at h1
    simpa using h1
  · have hx2 : ∃ y ∈ r, y.2 = x.2 := by
      rcases List.mem_or_eq_of_mem_set hx with hx | rfl
      · exact ⟨x, hx, rfl⟩
      · exact ⟨r[k], List.getElem_mem hk, rfl⟩
    obtain ⟨y, hy, he⟩ := hx2
    obtain ⟨m, xs, ho⟩ := h.2 y hy
    rw [he] at ho
    exact ⟨m, xs, ho.kept hgr (.inr (own_ne ho h.1 (by decide)))⟩

theorem cell_set {w : World} {p g i j : Nat} {u : Value} (h : p ≠ g) : (w.setCell ⟨p, i, none⟩ u).cell? ⟨g, j, none⟩ = w.cell? ⟨g, j, none⟩ := by
  have := Below.heap_setCell w ⟨p, i, none⟩ u g (fun e => h e.symm)
  unfold World.cell?
  rw [this]
set_option maxRecDepth 100000 in
set_option maxHeartbeats 4000000 in
theorem walk (W : World) (v : Value) (t : List Ty) (S : TysAt W v t) (_ : ∀ x ∈ t, TyOk x) (vo : Value) (o : List Ty) (SO : TysAt W vo o) (_ : ∀ x ∈ o, TyOk x) :
    Calls Try.prog 4 #[v, vo] W fun e W' => e = .returned (.bool true) ∧ Below W.heap.size W W' := by
  have HG := hid (great_calls v t W S)
  have HGO := hid (fun wx (hb : Below W.heap.size W wx) => great_calls vo o wx (SO.below hb))
  have HGN := hid (@great_no t)
  have HT := hid S
  have HTO := hid SO
  obtain ⟨ao, cap, rfl⟩ := S.slice
  obtain ⟨oo, ocap, rfl⟩ := SO.slice
  clear S SO
  cases hg : greatB t with
  | true =>
    rw [hg] at HG
    clear HGN hg HT HTO HGO
    generalize t.length = tl at *
    generalize o.length = ol at *
    go_enter Try.func4, Try.ntmps4
    go_wp2_with fail
    refine HG.out.mono ?_
    rintro e w1 ⟨rfl, hb1⟩
    go_wp2
    go_ret
    exact ⟨rfl, hb1⟩
  | false =>
    rw [hg] at HG
    obtain ⟨hl20, hp20⟩ := HGN.out hg
    cases hgo : greatB o with
    | true =>
      rw [hgo] at HGO
      clear HGN hg hgo HT HTO hl20 hp20
      generalize t.length = tl at *
      generalize o.length = ol at *
      go_enter Try.func4, Try.ntmps4
      go_wp2_with fail
      refine HG.out.mono ?_
      rintro e w1 ⟨rfl, hb1⟩
      have HG1 := hid (HGO.out w1 hb1)
      go_wp2_with fail
      refine HG1.out.mono ?_
      rintro e w2 ⟨rfl, hb2⟩
      have hbe := hb1.trans (hb2.mono hb1.size)
      go_wp2
      go_ret
      exact ⟨rfl, hbe⟩
    | false =>
      rw [hgo] at HGO
      have HTW := hid (fun wx (hb : Below W.heap.size W wx) => twinR_calls _ t wx (HT.out.below hb) hl20 hp20)
      have HOT := hid (fun (B : Nat) (v : Value) (r : List Row) (w : World) (h : OwnT B v r w) hr => own_tys h hr hl20 hp20)
      have HP1 := hid (fun u wx (h : TysAt wx u t) => twin_calls u t wx h (by omega) (fun x hx => by have := hp20 x hx; omega))
      have R1 := hid (fun wx (hb : Below W.heap.size W wx) => checkR_calls t _ wx (HT.out.below hb))
      have R2 := hid (fun wx (hb : Below W.heap.size W wx) => sameR_calls _ _ t o wx (HT.out.below hb) (HTO.out.below hb))
      have R5 := hid (fun u wx (h : TysAt wx u t) (hb : Below W.heap.size W wx) => sameR_calls u _ t t wx h (HT.out.below hb))
      have P1 := hid (fun u wx (h : TysAt wx u t) => check_calls t u wx h)
      have P2 := hid (fun u wx (h : TysAt wx u t) (hb : Below W.heap.size W wx) => same_calls u _ t o wx h (HTO.out.below hb))
      have P3 := hid (fun u wx (h : TysAt wx u t) (hb : Below W.heap.size W wx) => same_calls u _ t t wx h (HT.out.below hb))
      rw [decide_eq_true rfl] at R5 P3
      clear HGN hg hgo hp20
      generalize decide (t = o) = b at *
      generalize chkT t = er at *
      generalize ht : t.length = tl at *
      have HTL := hid ht
      clear ht
      generalize o.length = ol at *
      go_enter Try.func4, Try.ntmps4
      go_wp2_with fail
      refine HG.out.mono ?_
      rintro e w1 ⟨rfl, hb1⟩
      have HG1 := hid (HGO.out w1 hb1)
      clear HG HGO
      go_wp2_with fail
      refine HG1.out.mono ?_
      rintro e w2 ⟨rfl, hb2⟩
      have hbe2 := hb1.trans (hb2.mono hb1.size)
      have HTW1 := hid (HTW.out w2 hbe2)
      clear hb1 hb2 HG1 HTW
      go_wp2_with fail
      refine HTW1.out.mono ?_
      rintro e w3 ⟨own, r, rfl, hr, ho, hb3⟩
      have hbe3 := hbe2.trans (hb3.mono hbe2.size)
      have hown := HOT.out _ own r w3 ho hr
      have HOW := hid hown
      obtain ⟨wo, wc, rfl⟩ := hown.slice
      have HC := hid (HP1.out _ w3 hown)
      clear hb3 hbe2 HTW1 ho hr hown HP1
      rw [HTL.out] at HOW HC ⊢
      -- the twin
      go_wp2_with fail
      refine HC.out.mono ?_
      rintro e w4 ⟨x, r, rfl, hr, hx, hb4⟩
      have hrl : r.length = tl := by rw [← HTL.out, ← hr]; simp
      have HXT := hid (HOT.out _ x r w4 hx hr)
      have HX := hid (MutT.of hx)
      have hxf : ∃ g c, x = .slice g tl c := by
        rcases hx.1.2 with ⟨he, h0⟩ | ⟨_, _, _, he, _⟩
        · exact ⟨_, _, by rw [he, ← hrl, h0]⟩
        · exact ⟨_, _, by rw [he, hrl]⟩
      obtain ⟨xg, xc, rfl⟩ := hxf
      have HRL := hid hrl
      have hbX := hb4
      have hszX := hb4.size
      have hbe4 := hbe3.trans (hb4.mono hbe3.size)
      have HC1 := hid (P1.out _ w4 (HOW.out.below hb4))
      clear hb4 hx hr hrl HC HOT P1
      -- what is told of both
      go_wp2_with fail
      refine HC1.out.mono ?_
      rintro e w5 ⟨rfl, hb5⟩
      have hbe5 := hbe4.trans (hb5.mono hbe4.size)
      have hbX5 := hbX.trans (hb5.mono hszX)
      have HX5 := hid (HX.out.below hb5)
      have HXT5 := hid (HXT.out.below hb5)
      have HC2 := hid (R1.out w5 hbe5)
      clear hb5 hbe4 hbX HX HXT HC1 R1
      go_wp2_with fail
      refine HC2.out.mono ?_
      rintro e w6 ⟨rfl, hb6⟩
      have hbe6 := hbe5.trans (hb6.mono hbe5.size)
      have hbX6 := hbX5.trans (hb6.mono hbX5.size)
      have HX6 := hid (HX5.out.below hb6)
      have HXT6 := hid (HXT5.out.below hb6)
      have HC3 := hid (P2.out _ w6 (HOW.out.below hbX6) hbe6)
      clear hb6 hbe5 hbX5 HX5 HXT5 HC2 P2
      go_wp2_with fail
      refine HC3.out.mono ?_
      rintro e w7 ⟨rfl, hb7⟩
      have hbe7 := hbe6.trans (hb7.mono hbe6.size)
      have hbX7 := hbX6.trans (hb7.mono hbX6.size)
      have HX7 := hid (HX6.out.below hb7)
      have HXT7 := hid (HXT6.out.below hb7)
      have HC4 := hid (R2.out w7 hbe7)
      clear hb7 hbe6 hbX6 HX6 HXT6 HC3 R2
      go_wp2_with fail
      refine HC4.out.mono ?_
      rintro e w8 ⟨rfl, hb8⟩
      have hbe8 := hbe7.trans (hb8.mono hbe7.size)
      have hbX8 := hbX7.trans (hb8.mono hbX7.size)
      have HX8 := hid (HX7.out.below hb8)
      have HXT8 := hid (HXT7.out.below hb8)
      have HC5 := hid (P3.out _ w8 (HOW.out.below hbX8) hbe8)
      clear hb8 hbe7 hbX7 HX7 HXT7 HC4 P3
      go_wp2_with fail
      refine HC5.out.mono ?_
      rintro e w9 ⟨rfl, hb9⟩
      have hbe9 := hbe8.trans (hb9.mono hbe8.size)
      have hbX9 := hbX8.trans (hb9.mono hbX8.size)
      have HX9 := hid (HX8.out.below hb9)
      have HXT9 := hid (HXT8.out.below hb9)
      have HC6 := hid (R5.out _ w9 HXT9.out hbe9)
      clear hb9 hbe8 hbX8 HX8 HXT8 HC5
      go_wp2_with fail
      refine HC6.out.mono ?_
      rintro e w10 ⟨rfl, hb10⟩
      have hbX10 := hbX9.trans (hb10.mono hbX9.size)
      have HX10 := hid (HX9.out.below hb10)
      have hszW : W.heap.size ≤ w3.heap.size := hbe3.size
      have HFIN := hid (fun wx (hx : Below w3.heap.size w3 wx) => R5.out _ wx (HOW.out.below hx) (hbe3.trans (hx.mono hszW)))
      have HFIB := hid (fun wx (hx : Below w3.heap.size w3 wx) => hbe3.trans (hx.mono hszW))
      clear hb10 hbe9 hbX9 HX9 HXT9 HC6 R5 hbe3 HTL HT HTO HOW
      by_cases h0 : 0 < tl
      · obtain ⟨g, c2, hge, hgB, _, _, _⟩ := row_cells HX10.out.1 (by rw [rowVals_length, HRL.out]; omega)
        rw [HRL.out] at hge
        cases hge
        go_wp2
        go_loopg [8] tl (fun gk i wr => ∃ j : Nat, j + gk = tl ∧ i = .int .i64 j ∧ Below w3.heap.size w3 wr ∧ ∃ r, r.length = tl ∧ MutT w3.heap.size (.slice (some ⟨g, 0, none⟩) tl xc) r wr)
        case atStart => exact ⟨0, by omega, rfl, hbX10, r, HRL.out, HX10.out⟩
        case round =>
          obtain ⟨j, hj, rfl, hbr, r, hr, hm⟩ := hrel
          have HJ := hid hj
          have HR := hid hr
          have HM := hid hm
          by_cases hlt : j < tl
          · have hjr : j < r.length := by omega
            have hm1 := hm.1
            rw [hr] at hm1
            have c3 := (hm1.cellAt (j * 4 + 3) (by omega)).trans (rowVals_at r j hjr).2.2.2
            obtain ⟨pm, xs, hpo⟩ := hm.2 _ (List.getElem_mem hjr)
            obtain ⟨y, hy⟩ : ∃ y, r[j].2 = y := ⟨_, rfl⟩
            rw [hy] at c3 hpo
            have HPO := hid hpo
            clear hm1 hj hr hm hy hjr
            rcases hpo.2 with ⟨rfl, h0⟩ | ⟨p, pc, _, rfl, hp, hx1, hx2, hx3, hx4, hx5⟩
            · clear hpo h0
              go_wp2
              obtain ⟨wo, hwo⟩ : ∃ wo : World, wo = wr := ⟨wr, rfl⟩
              subst hwo
              obtain ⟨go, hgo⟩ : ∃ go : Nat, go = gk := ⟨gk, rfl⟩
              subst hgo
              go_loop [9] (fun i => i = .int .i64 0) (fun _ => 0)
              case atStart => exact rfl
              case round =>
                obtain rfl := hrel
                have hmk := mut_kind HM.out (by rw [HR.out]) j (by rw [HR.out]; exact hlt) 9
                have HFN := hid (And.intro (hbr.setCell (p := ⟨g, j * 4, none⟩) hgB (.int .u8 9)) hmk)
                have hm1 := HM.out.1
                rw [HR.out] at hm1
                have c0 := (hm1.cellAt (j * 4) (by omega)).trans (rowVals_at r j (by rw [HR.out]; exact hlt)).1
                have f0 := hm1.frozenAt (j * 4)
                clear hmk hm1
                go_wp2
                go_roundg (go - 1)
                case measure => have := HJ.out; omega
                case rel => exact ⟨j + 1, by have := HJ.out; omega, by go_num, HFN.out⟩
            · have hpm : pm ≤ 9223372036854775807 := by unfold maxLen at hx3; omega
              clear hpo hx1 hx2 hx3 hx4 hx5
              go_wp2
              obtain ⟨wo, hwo⟩ : ∃ wo : World, wo = wr := ⟨wr, rfl⟩
              subst hwo
              obtain ⟨go, hgo⟩ : ∃ go : Nat, go = gk := ⟨gk, rfl⟩
              subst hgo
              have HBO := hid hbr
              have C3 := hid c3
              clear c3 hbr
              go_loopg [9] pm (fun gk iv wr => ∃ q : Nat, q + gk = pm ∧ iv = .int .i64 q ∧ Below w3.heap.size w3 wr ∧ MutT w3.heap.size (.slice (some ⟨g, 0, none⟩) tl xc) r wr ∧ (∃ ys, wr.ownsRow w3.heap.size 3 1 (.slice (some ⟨p, 0, none⟩) pm pc) pm ys) ∧ wr.cell? ⟨g, j * 4 + 3, none⟩ = some (.slice (some ⟨p, 0, none⟩) pm pc))
              case atStart => exact ⟨0, by omega, rfl, HBO.out, HM.out, ⟨_, HPO.out⟩, C3.out⟩
              case round =>
                obtain ⟨q, hq, rfl, hbq, hmq, ⟨ys, hys⟩, c3⟩ := hrel
                have HQ := hid hq
                have HMQ := hid hmq
                clear hmq
                by_cases hlq : q < pm
                · obtain ⟨z, hz⟩ : ∃ z, ys[q]? = some z := ⟨ys[q]'(by have := hys.1; omega), List.getElem?_eq_getElem _⟩
                  have cq := (hys.cellAt q (by omega)).trans hz
                  have fq := hys.frozenAt q
                  have hst := hys.stored q (.int .i64 (-7))
                  have hm2 := mut_part (j := q) (u := .int .i64 (-7)) HMQ.out (by rw [HR.out]) hys
                  have hbq2 := hbq.setCell (p := ⟨p, q, none⟩) hp (.int .i64 (-7))
                  have hpg : p ≠ g := fun e => own_ne hys (show World.ownsRow _ _ _ _ (.slice (some ⟨g, 0, none⟩) tl xc) tl _ by have := HMQ.out.1; rwa [HR.out] at this) (by decide) (by rw [e]; rfl)
                  have c4 := (cell_set (i := q) (j := j * 4 + 3) (u := .int .i64 (-7)) hpg).trans c3
                  have HFN := hid (And.intro hbq2 (And.intro hm2 (And.intro (Exists.intro _ hst.1) c4)))
                  clear hq hz hys hst hm2 hbq2 c4 hbq
                  go_wp2
                  go_roundg (gk - 1)
                  case measure => have := HQ.out; omega
                  case rel => exact ⟨q + 1, by have := HQ.out; omega, by go_num, HFN.out⟩
                · obtain rfl : q = pm := by omega
                  clear hq hys
                  have hmk := mut_kind HMQ.out (by rw [HR.out]) j (by rw [HR.out]; exact hlt) 9
                  have HFN := hid (And.intro (hbq.setCell (p := ⟨g, j * 4, none⟩) hgB (.int .u8 9)) hmk)
                  have hm1 := HMQ.out.1
                  rw [HR.out] at hm1
                  have c0 := (hm1.cellAt (j * 4) (by omega)).trans (rowVals_at r j (by rw [HR.out]; exact hlt)).1
                  have f0 := hm1.frozenAt (j * 4)
                  clear hmk hm1
                  go_wp2
                  go_roundg (go - 1)
                  case measure => have := HJ.out; omega
                  case rel => exact ⟨j + 1, by have := HJ.out; omega, by go_num, HFN.out⟩
          · obtain rfl : j = tl := by omega
            have HF := hid (HFIN.out wr hbr)
            have hbW := HFIB.out wr hbr
            clear hj hr hm
            go_wp2_with fail
            refine HF.out.mono ?_
            rintro e w12 ⟨rfl, hb12⟩
            have hbe12 := hbW.trans (hb12.mono hbW.size)
            clear hb12 hbW
            go_wp2
            go_ret
            exact ⟨by simp, hbe12⟩
      · obtain rfl : tl = 0 := by omega
        have HF := hid (HFIN.out w10 hbX10)
        have hbW := HFIB.out w10 hbX10
        clear h0
        go_wp2
        go_loop [8] (fun i => i = .int .i64 0) (fun _ => 0)
        case atStart => exact rfl
        case round =>
          obtain rfl := hrel
          go_wp2_with fail
          refine HF.out.mono ?_
          rintro e w12 ⟨rfl, hb12⟩
          have hbe12 := hbW.trans (hb12.mono hbW.size)
          clear hb12 hbW
          go_wp2
          go_ret
          exact ⟨by simp, hbe12⟩
end Go.Proofs.Ytgimdoagccpcdaa.TyLT
