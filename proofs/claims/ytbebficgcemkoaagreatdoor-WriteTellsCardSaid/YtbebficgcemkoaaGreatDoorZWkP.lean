/- Walk over the writer's program: all lines. -/
import Derived.Test.YtbebficgcemkoaaGreatDoorZWkJ
import Derived.Test.YtbebficgcemkoaaGreatDoorZWrCToWrO
namespace Go.Proofs.YtbebficgcemkoaaGreatDoor.WkP
open Go.RowKit Go.Lib IntO SetP TyM TyP ShM ShP ShB LxM LxP LxJ RwO RgZ RdV RdM RdN NumP WrM WrI WrP WkM WkA WkL WkT WkI WkJ WkF Aft

/-- lines that grow -/
def LnS (w1 : World) (u : Value) (L : List Ln) (w : World) : Prop := (∃ r : List Rw, OwnL w1.heap.size u r w ∧ r.map Prod.fst = L) ∧ Aft w1 w
theorem LnS.on {w1 w w' : World} {u : Value} {L : List Ln} (h : LnS w1 u L w) (hb : Below w.heap.size w w') : LnS w1 u L w' := by
 obtain ⟨⟨r, h1, h2⟩, h3⟩ := h
 exact ⟨⟨r, h1.below hb, h2⟩, h3.go hb⟩
theorem LnS.nil (w : World) : LnS w (.slice none 0 0) [] w := ⟨⟨[], OwnL.nil _ _, rfl⟩, Aft.refl w⟩
/-- what is no row of lines stays -/
def KeepL (w w' : World) : Prop := ∀ (j : Nat) (cs : Array Value) (ty : TypeId) (fr : Nat × Nat), ¬ ty = 74 → w.heap[j]? = some (.cells cs ty fr) → w'.heap[j]? = some (.cells cs ty fr)
theorem wpList_append_line {ops : Array Oper} {rest : List Oper} {o : Oper} {a : Act} {w' : World} {Q : Exit → Act → World → Prop} (hgd : o.guard = none) (s x : Operand)
  (ho : o.op = .call { callee := .builtin .append, args := #[s, x], argTypes := #[44, 44] })
  {w1 : World} {u lv : Value} {L : List Ln} {ws : List ByteArray} (hS : LnS w1 u L w') (hs : a.eval s = u) (hx : a.eval x = .slice (some ⟨w'.heap.size, 0, none⟩) 1 1) (hl : w'.ownsRow w1.heap.size 9 1 lv ws.length (strs ws)) (hn : L.length ≤ 100000)
  (h : ∀ v' w6, LnS w1 v' (L ++ [ws]) w6 → KeepL w' w6 → wpList Tryz.prog ops Q rest (a.put o.dst v') w6) : wpList Tryz.prog ops Q (o :: rest) a (w'.alloc (.cells #[lv] 74)) := by
 obtain ⟨⟨r, h1, h2⟩, h3⟩ := hS
 have hb := LxP.alloc_below w' (.cells #[lv] 74)
 have h4 := h1.below hb
 have h5 := LxP.ownsRow_below hl hb
 obtain ⟨pa, ca, rfl⟩ := own_form hl
 have hrl : r.length = L.length := by rw [← h2, List.length_map]
 refine wpList_append_one hgd s x elemL ho w1.heap.size u hs r.length (r.map Prod.snd) h4.1 (by omega) w'.heap.size _ hx ((ShTB.cells_heap (heap_alloc_new w' _)).1 0 (by simp)) (by rw [World.size_alloc]; omega) rfl (by have := h3.size; rw [World.size_alloc]; omega) fun v' w6 hown hg => h v' w6 ⟨⟨r ++ [(ws, _)], h4.snoc (x := (ws, _)) h5 hg hown, by rw [List.map_append, h2]; rfl⟩, (Aft.go h3 hb).grown hg (by have := h3.size; rw [World.size_alloc]; omega) (fun g hg => (h4.1.lt g hg).1)⟩ (fun j cs ty fr hty hj => (hg.block j (by have := (Array.getElem?_eq_some_iff.1 hj).1; rw [World.size_alloc]; omega) (fun e => by
  obtain ⟨cs2, fr2, h6⟩ := own_typed h4.1 _ e.symm
  have h7 := (hb.block j (Array.getElem?_eq_some_iff.1 hj).1).trans hj
  rw [h7] at h6
  simp at h6
  exact hty h6.2.1)).trans ((hb.block j (Array.getElem?_eq_some_iff.1 hj).1).trans hj))
/-- a type, as the loop loads it -/
theorem LnS.aft {w1 w : World} {u : Value} {L : List Ln} (h : LnS w1 u L w) : Aft w1 w := h.2

set_option maxRecDepth 100000 in
set_option maxHeartbeats 16000000 in
theorem program_calls (p : Px) (v : Value) (w : World) (hp : PrAt w v p) (hf : FineQ p) (ht : NumL.Tab w) (hs : ShA.Tab w) (ho : TabW w) :
  Calls Tryz.prog 22 #[v] w (fun e w' => ∃ u, e = .returned u ∧ (∃ r : List Rw, OwnL w.heap.size u r w' ∧ r.map Prod.fst = progW p) ∧ Below w.heap.size w w') := by
 obtain ⟨vt, vf, rfl, htys, hfns⟩ := hp
 obtain ⟨w1, hw1⟩ : ∃ X, X = w.alloc (.cells #[vt, vf] 28) := ⟨_, rfl⟩
 have k0 : w1.heap[w.heap.size]? = some (.cells #[vt, vf] 28 (0, 0)) := by rw [hw1]; exact heap_alloc_new _ _
 have hb1 : Below w.heap.size w w1 := by rw [hw1]; exact LxP.alloc_below _ _
 obtain ⟨ta, tc, rfl⟩ := htys.slice
 obtain ⟨fa, fc, rfl, hfl⟩ := RowAt.slice hfns
 have HTY := hid (htys.below hb1)
 have HFN := hid (RowAt.below fnStays hfns hb1)
 have HCT := hid (fun (x : Ty) pv wx (hx : Aft w1 wx) (hp : IntsAt wx pv x.parts) (hl : x.parts.length ≤ 1000) h1 h2 h3 => typ_calls x pv wx hp hl h1 h2 h3 (ht.on (hb1.trans (Below.mono hx hb1.size))))
 have HFQ := hid hf
 have HTW := hid (fun wx (hx : Aft w1 wx) => ht.on (hb1.trans (Below.mono hx hb1.size)))
 have HCI := hid (fun (x : Ix) (reg : Int) va vf wx (hx : Aft w1 wx) h0 ha hff hl hlf hag i1 i2 i3 i4 i5 i6 i7 => ins_calls x reg va vf wx h0 ha hff hl hlf hag i1 i2 i3 i4 i5 i6 i7 (ht.on (hb1.trans (Below.mono hx hb1.size))) (hs.on (hb1.trans (Below.mono hx hb1.size))) (ho.on (hb1.trans (Below.mono hx hb1.size))))
 have HW1 := hid hw1
 have HB1 := hid hb1
 have hr : Aft w1 w1 := Aft.refl w1
 have l0 := later (cell_at k0 0 _ rfl)
 have l1 := later (cell_at k0 1 _ rfl)
 simp only [List.getElem_toArray, List.getElem_cons_zero, List.getElem_cons_succ] at l0 l1
 have HN0 := hid (LnS.nil w1)
 clear hw1 hb1 k0 ht hs ho htys hfns hf
 go_enter Tryz.func22, Tryz.ntmps22
 go_wp2_with fail
 rw [← HW1.out]
 go_wp2_with fail
 go_loopg [3, 5, 16] p.types.length (fun gk u _ i wr => ∃ (k : Nat), k + gk = p.types.length ∧ i = .int .i64 k ∧ Hid (LnS w1 u ((p.types.take k).map tyW) wr) ∧ Aft w1 wr)
 case atStart => exact ⟨0, by omega, rfl, HN0, hr⟩
 case round =>
  obtain ⟨k, hk, rfl, HS, hw⟩ := hrel
  have HK := hid hk
  clear hk HN0
  by_cases hlt : k < p.types.length
  ·obtain ⟨tb, off, rfl, hltb, pv, c0, c1, c2, c3, hpv⟩ := (HTY.out.below hw).at k hlt
   have HTK : Hid ((p.types.take (k + 1)).map tyW = (p.types.take k).map tyW ++ [tyW p.types[k]]) := by
    show _ = _
    rw [List.take_succ_eq_append_getElem hlt, List.map_append]; rfl
   have hmem := List.getElem_mem hlt
   have HX := hid (And.intro (HFQ.out.parts _ hmem) (HFQ.out.elem _ hmem))
   have HLN : Hid (((p.types.take k).map tyW).length ≤ 100000) := by
    have := HFQ.out.types
    show ((p.types.take k).map tyW).length ≤ 100000
    rw [List.length_map, List.length_take]; omega
   obtain ⟨pa, pc, rfl, _⟩ := TyP.ints_slice hpv
   have HC := hid (HCT.out p.types[k] _ (wr.alloc (.cells #[.int .u8 p.types[k].kind, .int .i64 p.types[k].elem, .int .i64 p.types[k].many, .slice pa p.types[k].parts.length pc] 77)) (hw.alloc _) (hpv.below (LxP.alloc_below _ _)) HX.out.1 HX.out.2.1 HX.out.2.2.1 HX.out.2.2.2)
   have HK2 : Hid (gk = p.types.length - k ∧ k < p.types.length) := ⟨by have := HK.out; omega, hlt⟩
   clear hpv HK hmem
   generalize p.types[k] = x at *
   generalize (p.types.take k).map tyW = LL at *
   have hki : (k : Int) < p.types.length := by have := HK2.out.2; omega
   clear hlt
   have HN16 := hid HFQ.out.types
   generalize hn1 : p.types.length = n1 at *
   have HN1 := hid hn1
   have hnn : n1 ≤ 9223372036854775807 := by have := HN16.out; omega
   clear hn1
   have HSA := hid (HS.out.on (LxP.alloc_below wr (.cells #[.int .u8 x.kind, .int .i64 x.elem, .int .i64 x.many, .slice pa x.parts.length pc] 77)))
   go_wp2_with fail
   refine HC.out.mono ?_
   rintro e w5 ⟨lv, rfl, hlo, hb5⟩
   obtain ⟨la, lc, rfl⟩ := own_form hlo
   have HS5 := hid (HSA.out.on hb5)
   have hlo2 := LxP.owns_base hlo HSA.out.aft.size
   have hln := HLN.out
   clear HC HSA hlo hb5 c0 c1 c2 c3 HX HS
   go_wp2_with (at_builtin; refine wpList_append_line rfl (.tmp 20) (.tmp 23) rfl HS5.out rfl rfl hlo2 hln ?_)
   intro v6 w6 hS6 _
   have HS6 := hid hS6
   have h6 := hS6.aft
   clear hS6 HS5 hlo2 hln hw
   go_wp2
   go_roundg (gk - 1)
   case measure => have := HK2.out; omega
   case rel => exact ⟨k + 1, by have := HK2.out; have := HN1.out; omega, by go_num, by rw [HTK.out]; exact HS6, h6⟩
  obtain rfl : k = p.types.length := by have := HK.out; omega
  rw [List.take_length] at HS
  have HS0 : Hid (LnS w1 u3 (p.types.map tyW ++ funcsW p.types (p.funcs.take 0)) wr) := by
   rw [List.take_zero]
   show LnS w1 u3 (p.types.map tyW ++ []) wr
   rw [List.append_nil]
   exact HS.out
  clear HS HK hlt
  obtain ⟨wo, hwo⟩ : ∃ wo : World, wo = wr := ⟨wr, rfl⟩
  subst hwo
  obtain ⟨gO, hgo⟩ : ∃ go : Nat, go = gk := ⟨gk, rfl⟩
  subst hgo
  go_wp2
  go_loopg [3, 7, 8, 10, 12, 29] p.funcs.length (fun gk u _ _ _ _ i wr => ∃ (k : Nat), k + gk = p.funcs.length ∧ i = .int .i64 k ∧ Hid (LnS w1 u (p.types.map tyW ++ funcsW p.types (p.funcs.take k)) wr) ∧ Hid ((p.types.map tyW ++ funcsW p.types (p.funcs.take k)).length ≤ 20 + 3000 * k) ∧ Aft w1 wr)
  case atStart => exact ⟨0, by omega, rfl, HS0, by have := HFQ.out.types; show (p.types.map tyW ++ []).length ≤ _; simp; omega, hw⟩
  case round =>
   obtain ⟨k, hk, rfl, HS, HL, hw⟩ := hrel
   have HK := hid hk
   clear hk HS0
   by_cases hlt : k < p.funcs.length
   rotate_left
   ·obtain rfl : k = p.funcs.length := by have := HK.out; omega
    rw [List.take_length] at HS
    have HSF : Hid (LnS w1 u3 (progW p) wr) := HS
    clear HS HL HK hlt HTY HFN HCT HFQ l0 l1
    generalize p.funcs.length = n2 at *
    generalize p.types.length = n1 at *
    obtain ⟨⟨r, h1, h2⟩, h3⟩ := HSF.out
    obtain ⟨pa, pc, rfl⟩ := own_form h1.1
    have HR := hid (And.intro h1 h2)
    clear h1 h2 HSF
    go_wp2
    go_ret
    exact ⟨_, rfl, ⟨r, HR.out.1.base HB1.out.size, HR.out.2⟩, HB1.out.trans (Below.mono h3 HB1.out.size)⟩
   obtain ⟨fb, foff, rfl, hfb, vb, c0', c1', hbl⟩ := HFN.out.at k hlt
   have c0 := later c0' wr hw
   have c1 := later c1' wr hw
   clear c0' c1'
   have hmem := List.getElem_mem hlt
   have HX := hid (And.intro (HFQ.out.sig _ hmem) (And.intro (HFQ.out.blocks _ hmem) (And.intro (HFQ.out.ins _ hmem) (HFQ.out.en _ hmem))))
   have HFK : Hid (p.types.map tyW ++ funcsW p.types (p.funcs.take (k + 1)) = (p.types.map tyW ++ funcsW p.types (p.funcs.take k)) ++ (fnW p.funcs[k].sig :: blocksW p.funcs[k].blocks (RdV.regOf p.types p.funcs[k].sig))) := by
    show _ = _
    rw [List.take_succ_eq_append_getElem hlt, funcsW_snoc, List.append_assoc]
   have HK2 : Hid (gk = p.funcs.length - k ∧ k < p.funcs.length ∧ p.funcs.length ≤ 8) := ⟨by have := HK.out; omega, hlt, HFQ.out.funcs⟩
   clear HK hmem
   generalize p.funcs[k] = x at *
   generalize hLL : p.types.map tyW ++ funcsW p.types (p.funcs.take k) = LL at *
   clear hLL
   obtain ⟨sg, bl⟩ := x
   simp only at *
   obtain ⟨s, rfl⟩ : ∃ s : Nat, sg = s := ⟨sg.toNat, by have := HX.out.1; omega⟩
   have hst : s < p.types.length := by have := HX.out.1; omega
   obtain ⟨tb, toff, hta, htb, pv, -, -, -, m3, hpv⟩ := HTY.out.at s hst
   obtain ⟨pa, pc, rfl, hpl⟩ := TyP.ints_slice hpv
   subst hta
   have HRG : Hid (RdV.regOf p.types (s : Int) = (p.types[s].parts.length : Int) ∧ p.types[s].parts.length ≤ 1000) := ⟨by
    unfold RdV.regOf; rw [Int.toNat_natCast, List.getElem?_eq_getElem hst], HFQ.out.parts _ (List.getElem_mem hst)⟩
   have lm3 := later m3
   obtain ⟨ba, bc, rfl, hbl9⟩ := RowAt.slice hbl
   have HBL := hid hbl
   clear hpv hpl m3 hbl
   generalize p.types[s].parts.length = pn at *
   have hki : (k : Int) < p.funcs.length := by have := HK2.out.2.1; omega
   have hsi : (s : Int) < p.types.length := by omega
   have h64s : I64 (s : Int) := by have := HFQ.out.types; unfold I64; omega
   have HC1 := hid (line_lit (w1 := wr.alloc (.cells #[.int .i64 s, .slice ba bl.length bc] 49)) (l := [.word (mk [102, 117, 110, 99]), .mark 116 s]) (n := 2) (ty := 144) rfl (by decide) rfl (allc trivial (all1 h64s)) (Nat.le_of_ble_eq_true rfl) (HTW.out _ (hw.alloc _)))
   rw [show wordsAll [.word (mk [102, 117, 110, 99]), .mark 116 s] = fnW s from rfl, World.size_alloc] at HC1
   have HSA := hid (HS.out.on (LxP.alloc_below wr (.cells #[.int .i64 s, .slice ba bl.length bc] 49)))
   have HLL : Hid (LL.length ≤ 25000) := by have := HL.out; have := HK2.out; show LL.length ≤ 25000; omega
   have HLN : Hid (LL.length ≤ 100000) := by have := HL.out; have := HK2.out; show LL.length ≤ 100000; omega
   have k7 := heap_alloc_new wr (.cells #[.int .i64 s, .slice ba bl.length bc] 49)
   have HK7 := hid k7
   clear k7 hlt hst h64s
   have HRL := hid (show bl.length ≤ 16 ∧ insN bl ≤ 128 from HX.out.2.1)
   generalize fnW (s : Int) = fw at *
   generalize hn2 : p.funcs.length = n2 at *
   have HN2 := hid hn2
   clear hn2
   generalize hn1 : p.types.length = n1 at *
   clear hn1
   generalize hn3 : bl.length = n3 at *
   have HN3 := hid hn3
   clear hn3
   go_upto_region 10 with fail
   go_wp2_with fail
   refine HC1.out.mono ?_
   rintro e w5 ⟨lv, rfl, hlo, hb5⟩
   obtain ⟨la, lc, rfl⟩ := own_form hlo
   have HS5 := hid (HSA.out.on hb5)
   have hlo2 := LxP.owns_base hlo HSA.out.aft.size
   have hln := HLN.out
   have HK75 := hid ((hb5.block _ (by rw [World.size_alloc]; omega)).trans HK7.out)
   obtain ⟨n7, hn7⟩ : ∃ n7, n7 = wr.heap.size := ⟨_, rfl⟩
   rw [← hn7] at HK75
   have HN7 := hid hn7
   clear HC1 HSA HK7 hlo hb5 c0 c1 HS hn7
   go_wp2_with (at_builtin; refine wpList_append_line rfl (.tmp 33) (.tmp 41) rfl HS5.out rfl rfl hlo2 hln ?_)
   intro v6 w6 hS6 hkp
   have HS6 := hid hS6
   have h6 := hS6.aft
   have k7 := hkp _ _ _ _ (by decide) HK75.out
   rw [← HN7.out]
   have HK76 := hid k7
   have f0 := cell_at k7 0 _ rfl
   have f1 := cell_at k7 1 _ rfl
   simp only [List.getElem_toArray, List.getElem_cons_zero, List.getElem_cons_succ] at f0 f1
   clear hS6 HS5 hlo2 hln hkp k7 HK75 HN7
   go_wp2_with fail
   have HS60 : Hid (LnS w1 v6 (LL ++ fw :: blocksW (bl.take 0) (pn : Int)) w6) := HS6.out
   have HL60 : Hid ((LL ++ fw :: blocksW (bl.take 0) (pn : Int)).length ≤ LL.length + 1 + 130 * 0) := by
    show (LL ++ [fw]).length ≤ _
    rw [List.length_append]; exact Nat.le_refl _
   have hpq : (pn : Int) = ((pn + insN (bl.take 0) : Nat) : Int) := rfl
   have HPQ := hid hpq
   clear HS6 hpq
   obtain ⟨w2, hw2⟩ : ∃ wo : World, wo = wr := ⟨wr, rfl⟩
   subst hw2
   obtain ⟨g2, hg2⟩ : ∃ go : Nat, go = gk := ⟨gk, rfl⟩
   subst hg2
   go_loopg [3, 8, 10, 12, 54] n3 (fun gk u rg _ _ i wr => ∃ (j : Nat), j + gk = n3 ∧ i = .int .i64 j ∧ Hid (rg = .int .i64 ((pn + insN (bl.take j) : Nat) : Int)) ∧ Hid (LnS w1 u (LL ++ fw :: blocksW (bl.take j) (pn : Int)) wr) ∧ Hid ((LL ++ fw :: blocksW (bl.take j) (pn : Int)).length ≤ LL.length + 1 + 130 * j) ∧ Hid (wr.heap[n7]? = some (.cells #[.int .i64 s, .slice ba n3 bc] 49 (0, 0))) ∧ Aft w1 wr)
   case atStart => exact ⟨0, by omega, rfl, congrArg (Value.int .i64) HPQ.out, HS60, HL60, HK76, h6⟩
   case round =>
    obtain ⟨j, hj, rfl, HRG3, HS3, HL3, HK3, hw3⟩ := hrel
    have HJ := hid hj
    clear hj HS60 HL60 HK76 h6 f0 f1 HPQ
    by_cases hlt : j < bl.length
    rotate_left
    ·have htk : bl.take j = bl := List.take_of_length_le (by have := HJ.out; omega)
     rw [htk] at HS3 HL3 HRG3
     obtain rfl : j = n3 := by have := HJ.out; have := HN3.out; omega
     clear htk
     have hfk := HFK.out
     rw [HRG.out.1] at hfk
     have HFK2 := hid hfk
     have HS4 : Hid (LnS w1 u3 (p.types.map tyW ++ funcsW p.types (p.funcs.take (k + 1))) wr) := by rw [HFK2.out]; exact HS3
     have HL4 : Hid ((p.types.map tyW ++ funcsW p.types (p.funcs.take (k + 1))).length ≤ 20 + 3000 * (k + 1)) := by
      rw [HFK2.out]
      have h1 := HL3.out; have h2 := HL.out; have h3 := HRL.out.1
      show (LL ++ fw :: blocksW bl ↑pn).length ≤ _
      omega
     clear hfk HFK HFK2 HS3 HL3 HL HRL HJ hlt HK3
     go_wp2
     go_roundg (g2 - 1)
     case measure => have := HK2.out; have := HN2.out; omega
     case rel => exact ⟨k + 1, by have := HK2.out; have := HN2.out; omega, by go_num, HS4, HL4, hw3⟩
    obtain ⟨yb, yoff, hya, hyb, vi, d0', d1', d2', d3', d4', hin⟩ := HBL.out.at j hlt
    subst hya
    have d0 := later d0' wr hw3
    have d1 := later d1' wr hw3
    have d2 := later d2' wr hw3
    have d3 := later d3' wr hw3
    have d4 := later d4' wr hw3
    obtain ⟨ia, ic, rfl, hil⟩ := RowAt.slice hin
    have HIN := hid hin
    have HY := hid (And.intro (HX.out.2.2.1 _ (List.getElem_mem hlt)) (HX.out.2.2.2 _ (List.getElem_mem hlt)))
    have hti := insN_take bl j hlt
    have htl := insN_le bl (j + 1)
    have HBK : Hid (LL ++ fw :: blocksW (bl.take (j + 1)) (pn : Int) = (LL ++ fw :: blocksW (bl.take j) (pn : Int)) ++ (blW :: (insWs bl[j].ins (((pn + insN (bl.take j) : Nat)) : Int) ++ [endW bl[j].en]))) := by
     show _ = _
     rw [List.take_succ_eq_append_getElem hlt, blocksW_snoc, ← List.cons_append, ← List.append_assoc, Int.natCast_add]
    have HJ2 : Hid (gk = n3 - j ∧ j < n3) := ⟨by have := HJ.out; omega, by have := HN3.out; omega⟩
    have HIT : Hid (insN (bl.take (j + 1)) = insN (bl.take j) + bl[j].ins.length ∧ insN (bl.take (j + 1)) ≤ 128) := ⟨hti, by have := HRL.out.2; omega⟩
    clear d0' d1' d2' d3' d4' hin hti htl HJ
    generalize bl[j] = y at *
    clear hlt
    obtain ⟨yi, ye⟩ := y
    simp only at *
    generalize hL3 : LL ++ fw :: blocksW (bl.take j) (pn : Int) = L3 at *
    clear hL3
    generalize hq3 : pn + insN (bl.take j) = q3 at *
    have HQ3 : Hid (q3 ≤ 1200 ∧ q3 + yi.length = pn + insN (bl.take (j + 1))) := ⟨by have := HRG.out.2; have := HIT.out; omega, by have := HIT.out; omega⟩
    clear hq3
    have hrg3 := HRG3.out
    subst hrg3
    have HC2 := hid (line_lit (w1 := wr.alloc (.cells #[.slice ia yi.length ic, .int .u8 ye.kind, .int .i64 ye.a, .int .i64 ye.to, .int .i64 ye.els] 54)) (l := [.word (mk [98, 108, 111, 99, 107])]) (n := 1) (ty := 144) rfl (by decide) rfl (all1 trivial) (Nat.le_of_ble_eq_true rfl) (HTW.out _ (hw3.alloc _)))
    rw [show wordsAll [.word (mk [98, 108, 111, 99, 107])] = blW from rfl, World.size_alloc] at HC2
    have HSA := hid (HS3.out.on (LxP.alloc_below wr (.cells #[.slice ia yi.length ic, .int .u8 ye.kind, .int .i64 ye.a, .int .i64 ye.to, .int .i64 ye.els] 54)))
    have HLN : Hid (L3.length ≤ 50000) := by have := HL3.out; have := HLL.out; have := HJ2.out; have := HRL.out.1; have := HN3.out; show L3.length ≤ 50000; omega
    have HKA := hid ((LxP.alloc_below wr (.cells #[.slice ia yi.length ic, .int .u8 ye.kind, .int .i64 ye.a, .int .i64 ye.to, .int .i64 ye.els] 54)).block _ (Array.getElem?_eq_some_iff.1 HK3.out).1 |>.trans HK3.out)
    have HKB := hid (heap_alloc_new wr (.cells #[.slice ia yi.length ic, .int .u8 ye.kind, .int .i64 ye.a, .int .i64 ye.to, .int .i64 ye.els] 54))
    generalize hbw : blW = bw at *
    clear hbw
    generalize hn4 : yi.length = n4 at *
    have HN4 := hid hn4
    clear hn4
    have hji : (j : Int) < n3 := by have := HJ2.out; omega
    go_upto_region 15 with fail
    go_wp2_with fail
    refine HC2.out.mono ?_
    rintro e w5 ⟨lv, rfl, hlo, hb5⟩
    obtain ⟨la2, lc2, rfl⟩ := own_form hlo
    have HS5 := hid (HSA.out.on hb5)
    have hlo2 := LxP.owns_base hlo HSA.out.aft.size
    have hln : L3.length ≤ 100000 := by have := HLN.out; omega
    have HKA5 := hid ((hb5.block _ (Array.getElem?_eq_some_iff.1 HKA.out).1).trans HKA.out)
    have HKB5 := hid ((hb5.block _ (Array.getElem?_eq_some_iff.1 HKB.out).1).trans HKB.out)
    obtain ⟨nB, hnB⟩ : ∃ nB, nB = wr.heap.size := ⟨_, rfl⟩
    rw [← hnB] at HKB5
    have HNB := hid hnB
    clear HC2 HSA HKA HKB hlo hb5 d0 d1 d2 d3 d4 HS3 HK3 hnB
    go_wp2_with (at_builtin; refine wpList_append_line rfl (.tmp 58) (.tmp 62) rfl HS5.out rfl rfl hlo2 hln ?_)
    intro v7 w7 hS7 hkp
    have h7 := hS7.aft
    have kB := hkp _ _ _ _ (by decide) HKB5.out
    rw [← HNB.out]
    have HKA7 := hid (hkp _ _ _ _ (by decide) HKA5.out)
    have HKB7 := hid kB
    have b0 := cell_at kB 0 _ rfl
    simp only [List.getElem_toArray, List.getElem_cons_zero] at b0
    have HS70 : Hid (LnS w1 v7 (L3 ++ bw :: insWs (yi.take 0) (q3 : Int)) w7) := hS7
    have HL70 : Hid ((L3 ++ bw :: insWs (yi.take 0) (q3 : Int)).length = L3.length + 1 + 0) := by
     show (L3 ++ [bw]).length = _
     rw [List.length_append]; rfl
    clear hS7 HS5 hlo2 hln hkp kB HKA5 HKB5 HNB
    go_wp2_with fail
    obtain ⟨w3, hw3e⟩ : ∃ wo : World, wo = wr := ⟨wr, rfl⟩
    subst hw3e
    obtain ⟨g3, hg3⟩ : ∃ go : Nat, go = gk := ⟨gk, rfl⟩
    subst hg3
    go_loopg [3, 8, 12, 67] n4 (fun gk u rg _ i wr => ∃ (m : Nat), m + gk = n4 ∧ i = .int .i64 m ∧ Hid (rg = .int .i64 ((q3 + m : Nat) : Int)) ∧ Hid (LnS w1 u (L3 ++ bw :: insWs (yi.take m) (q3 : Int)) wr) ∧ Hid ((L3 ++ bw :: insWs (yi.take m) (q3 : Int)).length = L3.length + 1 + m) ∧ Hid (wr.heap[n7]? = some (.cells #[.int .i64 s, .slice (some ⟨yb, yoff, none⟩) n3 bc] 49 (0, 0))) ∧ Hid (wr.heap[nB]? = some (.cells #[.slice ia n4 ic, .int .u8 ye.kind, .int .i64 ye.a, .int .i64 ye.to, .int .i64 ye.els] 54 (0, 0))) ∧ Aft w1 wr)
    case atStart => exact ⟨0, by omega, rfl, rfl, HS70, HL70, HKA7, HKB7, h7⟩
    case round =>
     obtain ⟨m, hm, rfl, HRG4, HS8, HL8, HKA8, HKB8, hw4⟩ := hrel
     have HM := hid hm
     clear hm HS70 HL70 HKA7 HKB7 h7 b0
     have hrg4 := HRG4.out
     subst hrg4
     obtain ⟨q, hq⟩ : ∃ q, q = q3 + m := ⟨_, rfl⟩
     rw [← hq]
     have HQ := hid hq
     clear hq HRG4
     by_cases hlt : m < yi.length
     rotate_left
     ·have htk : yi.take m = yi := List.take_of_length_le (by omega)
      rw [htk] at HS8 HL8
      have hmn : m = n4 := by have := HM.out; have := HN4.out; omega
      have HE := hid (end_calls ye wr HY.out.2.1 HY.out.2.2.1 HY.out.2.2.2 (HTW.out wr hw4))
      have hln : (L3 ++ bw :: insWs yi (q3 : Int)).length ≤ 100000 := by have := HL8.out; have := HLN.out; have := HIT.out; have := HN4.out; omega
      have kB := HKB8.out
      have b1 := cell_at kB 1 _ rfl
      have b2 := cell_at kB 2 _ rfl
      have b3 := cell_at kB 3 _ rfl
      have b4 := cell_at kB 4 _ rfl
      simp only [List.getElem_toArray, List.getElem_cons_zero, List.getElem_cons_succ] at b1 b2 b3 b4
      have hmi : ¬ ((m : Int) < n4) := by omega
      have HMN := hid hmn
      clear htk kB hlt hmn
      go_wp2_with fail
      refine HE.out.mono ?_
      rintro e w5 ⟨lv, rfl, hlo, hb5⟩
      obtain ⟨la3, lc3, rfl⟩ := own_form hlo
      have HS5 := hid (HS8.out.on hb5)
      have hlo2 := LxP.owns_base hlo HS8.out.aft.size
      have HKA5 := hid ((hb5.block _ (Array.getElem?_eq_some_iff.1 HKA8.out).1).trans HKA8.out)
      clear HE hlo hb5 b1 b2 b3 b4 HS8 HKA8 HKB8
      go_wp2_with (at_builtin; refine wpList_append_line rfl (.tmp 80) (.tmp 84) rfl HS5.out rfl rfl hlo2 hln ?_)
      intro v9 w9 hS9 hkp
      have h9 := hS9.aft
      have HKA9 := hid (hkp _ _ _ _ (by decide) HKA5.out)
      have HS9 : Hid (LnS w1 v9 (LL ++ fw :: blocksW (bl.take (j + 1)) (pn : Int)) w9) := by
       show LnS w1 v9 _ w9
       rw [HBK.out]; simpa using hS9
      have HL9 : Hid ((LL ++ fw :: blocksW (bl.take (j + 1)) (pn : Int)).length ≤ LL.length + 1 + 130 * (j + 1)) := by
       have h1 := HL8.out; have h2 := HL3.out; have h3 := HIT.out; have h4 := HN4.out
       have h5 := HMN.out
       show (LL ++ fw :: blocksW (bl.take (j + 1)) (pn : Int)).length ≤ LL.length + 1 + 130 * (j + 1)
       rw [List.length_append, List.length_cons] at h1
       rw [HBK.out, List.length_append, List.length_cons, List.length_append, List.length_singleton]
       omega
      have HRG9 : Hid (Value.int .i64 (q : Int) = .int .i64 ((pn + insN (bl.take (j + 1)) : Nat) : Int)) := by
       have h1 := HQ.out; have h2 := HQ3.out.2; have h3 := HMN.out
       show _ = _
       refine congrArg _ ?_
       omega
      clear hS9 hkp HS5 hlo2 hln HKA5 HIT HL8 HQ
      go_wp2
      go_roundg (g3 - 1)
      case measure => have := HJ2.out; omega
      case rel => exact ⟨j + 1, by have := HJ2.out; omega, by go_num, HRG9, HS9, HL9, HKA9, h9⟩
     obtain ⟨xb, xoff, hxa, hxb, va, vf, e0', e1', e2', e3', e4', e5', e6', hva, hvf⟩ := HIN.out.at m hlt
     subst hxa
     have e0 := later e0' wr hw4
     have e1 := later e1' wr hw4
     have e2 := later e2' wr hw4
     have e3 := later e3' wr hw4
     have e4 := later e4' wr hw4
     have e5 := later e5' wr hw4
     have e6 := later e6' wr hw4
     obtain ⟨a1, a2, rfl, _⟩ := TyP.ints_slice hva
     obtain ⟨f1, f2, rfl, _⟩ := TyP.ints_slice hvf
     have HXO := hid (HY.out.1 _ (List.getElem_mem hlt))
     have HTK : Hid (insWs (yi.take (m + 1)) (q3 : Int) = insWs (yi.take m) (q3 : Int) ++ [insW yi[m] ((q : Nat) : Int)]) := by
      show _ = _
      rw [List.take_succ_eq_append_getElem hlt, insWs_snoc, List.length_take, Nat.min_eq_left (by omega), HQ.out, Int.natCast_add]
     have HM2 : Hid (gk = n4 - m ∧ m < n4) := ⟨by have := HM.out; omega, by have := HN4.out; omega⟩
     have hq64 : I64 (q : Int) := by have := HQ.out; have := HQ3.out; have := HM2.out; have := HN4.out; have := HIT.out; unfold I64; omega
     have hqn : q ≤ 5000 := by have := HQ.out; have := HQ3.out; have := HM2.out; have := HN4.out; have := HIT.out; omega
     have HC4 := hid (HCI.out yi[m] (q : Int) _ _ (wr.alloc (.cells #[.int .u8 yi[m].op, .int .i64 yi[m].typ, .int .i64 yi[m].a, .int .i64 yi[m].b, .int .i64 yi[m].n, .slice a1 yi[m].args.length a2, .slice f1 yi[m].frm.length f2] 57)) (hw4.alloc _) HXO.out.1.op (hva.below (Below.alloc hw4 hw4.size _)) (hvf.below (Below.alloc hw4 hw4.size _)) HXO.out.2 HXO.out.1.frm1 HXO.out.1.args0 (fun n hn => nn64 (HXO.out.1.args n hn)) (fun n hn => nn64 (HXO.out.1.frm n hn)) (nn64 HXO.out.1.typ) (nn64 HXO.out.1.a) (nn64 HXO.out.1.b) HXO.out.1.n hq64)
     have HSA := hid (HS8.out.on (LxP.alloc_below wr (.cells #[.int .u8 yi[m].op, .int .i64 yi[m].typ, .int .i64 yi[m].a, .int .i64 yi[m].b, .int .i64 yi[m].n, .slice a1 yi[m].args.length a2, .slice f1 yi[m].frm.length f2] 57)))
     have HKAA := hid (((LxP.alloc_below wr (.cells #[.int .u8 yi[m].op, .int .i64 yi[m].typ, .int .i64 yi[m].a, .int .i64 yi[m].b, .int .i64 yi[m].n, .slice a1 yi[m].args.length a2, .slice f1 yi[m].frm.length f2] 57)).block _ (Array.getElem?_eq_some_iff.1 HKA8.out).1).trans HKA8.out)
     have HKBA := hid (((LxP.alloc_below wr (.cells #[.int .u8 yi[m].op, .int .i64 yi[m].typ, .int .i64 yi[m].a, .int .i64 yi[m].b, .int .i64 yi[m].n, .slice a1 yi[m].args.length a2, .slice f1 yi[m].frm.length f2] 57)).block _ (Array.getElem?_eq_some_iff.1 HKB8.out).1).trans HKB8.out)
     have hln : (L3 ++ bw :: insWs (yi.take m) (q3 : Int)).length ≤ 100000 := by have := HL8.out; have := HLN.out; have := HIT.out; have := HM2.out; have := HN4.out; omega
     clear e0' e1' e2' e3' e4' e5' e6' hva hvf HXO HM hq64
     generalize yi[m] = x at *
     clear hlt
     generalize hL4 : insWs (yi.take m) (q3 : Int) = IW at *
     clear hL4
     have hmi : (m : Int) < n4 := by have := HM2.out; omega
     generalize hxl : x.args.length = xn at *
     clear hxl
     generalize hxf : x.frm.length = fn at *
     clear hxf
     go_upto_region 19 with fail
     go_wp2_with fail
     refine HC4.out.mono ?_
     rintro e w5 ⟨lv, rfl, hlo, hb5⟩
     obtain ⟨la3, lc3, rfl⟩ := own_form hlo
     have HS5 := hid (HSA.out.on hb5)
     have hlo2 := LxP.owns_base hlo HSA.out.aft.size
     have HKA5 := hid ((hb5.block _ (Array.getElem?_eq_some_iff.1 HKAA.out).1).trans HKAA.out)
     have HKB5 := hid ((hb5.block _ (Array.getElem?_eq_some_iff.1 HKBA.out).1).trans HKBA.out)
     clear HC4 HSA HKAA HKBA hlo hb5 HS8 HKA8 HKB8 e0 e1 e2 e3 e4 e5 e6
     go_wp2_with (at_builtin; refine wpList_append_line rfl (.tmp 71) (.tmp 75) rfl HS5.out rfl rfl hlo2 hln ?_)
     intro v9 w9 hS9 hkp
     have h9 := hS9.aft
     have HKA9 := hid (hkp _ _ _ _ (by decide) HKA5.out)
     have HKB9 := hid (hkp _ _ _ _ (by decide) HKB5.out)
     have HS9 : Hid (LnS w1 v9 (L3 ++ bw :: insWs (yi.take (m + 1)) (q3 : Int)) w9) := by
      show LnS w1 v9 _ w9
      rw [HTK.out]; simpa using hS9
     have HL9 : Hid ((L3 ++ bw :: insWs (yi.take (m + 1)) (q3 : Int)).length = L3.length + 1 + (m + 1)) := by
      have h1 := HL8.out
      show (L3 ++ bw :: insWs (yi.take (m + 1)) (q3 : Int)).length = L3.length + 1 + (m + 1)
      rw [List.length_append, List.length_cons] at h1
      rw [HTK.out, List.length_append, List.length_cons, List.length_append, List.length_singleton]
      omega
     clear hS9 hkp HS5 hlo2 hln HKA5 HKB5 HL8 hw4
     go_wp2
     go_roundg (gk - 1)
     case measure => have := HM2.out; omega
     case rel => exact ⟨m + 1, by have := HM2.out; omega, by go_num, by (show _ = _; refine congrArg _ ?_; have := HQ.out; omega), HS9, HL9, HKA9, HKB9, h9⟩
end Go.Proofs.YtbebficgcemkoaaGreatDoor.WkP
