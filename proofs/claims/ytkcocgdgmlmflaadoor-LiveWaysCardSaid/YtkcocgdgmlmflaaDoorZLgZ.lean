/- Walk over fescuelaw11.LiveWays. -/
import Derived.Test.YtkcocgdgmlmflaaDoorZShIToShJ
import Derived.Test.YtkcocgdgmlmflaaDoorZLiCToLgX
import Derived.Test.YtkcocgdgmlmflaaDoorZFkNToLiB
import Derived.Test.YtkcocgdgmlmflaaDoorZShBToShW
import Derived.Test.YtkcocgdgmlmflaaDoorZShOpenToFeZ2
import Derived.Test.YtkcocgdgmlmflaaDoorZTyBToTyRI
import Derived.Test.YtkcocgdgmlmflaaDoorZFwRToRwO
import Derived.Deep.RegionHeld3
import Derived.Deep.CutRange
import Derived.Test.YtkcocgdgmlmflaaDoorZRgZToRgY
namespace Go.Proofs.YtkcocgdgmlmflaaDoor.LgZ
open Go.RowKit Go.Lib RwO SetP IntO TyM TyP TyB TyC TyRE ShM ShP ShA ShB ShC ShE ShI ShJ ShR ShOpen Aft Fresh LwT FwM FwC FwP FwQ FwR FwB FwO FwK FvA FvB FdQ LvM LvQ LvW LgK LuM LgC LgD LgN ShH ShJ ShK ShL IntG BlkG LgX LgY RgZ

/-- has it been read by what the first i of those met go to? -/
def RdO (hit : Nat → Bool) (s : List Nat) (i : Nat) : Bool := (s.take i).any hit
/-- or by the first m of what one more goes to? -/
def RdI (hit h1 : Nat → Bool) (s tl : List Nat) (i m : Nat) : Bool := (s.take i).any hit || (tl.take m).any h1
theorem rdI_zero (hit h1 : Nat → Bool) (s tl : List Nat) (i : Nat) : RdI hit h1 s tl i 0 = RdO hit s i := by simp [RdI, RdO]
theorem any_take {h : Nat → Bool} {l : List Nat} {m c : Nat} (hm : l[m]? = some c) : (l.take (m + 1)).any h = ((l.take m).any h || h c) := by
  obtain ⟨hk, he⟩ := List.getElem?_eq_some_iff.1 hm
  rw [List.take_succ_eq_append_getElem hk, he, List.any_append]
  simp
theorem rdI_step (hit h1 : Nat → Bool) {s tl : List Nat} {i m c : Nat} (hm : tl[m]? = some c) : RdI hit h1 s tl i (m + 1) = (RdI hit h1 s tl i m || h1 c) := by
  unfold RdI
  rw [any_take hm, Bool.or_assoc]
theorem rdI_put (hit h1 : Nat → Bool) {s : List Nat} (tl : List Nat) {i c j : Nat} (h : i ≤ s.length) : RdI hit h1 (s ++ [c]) tl i j = RdI hit h1 s tl i j := by
  unfold RdI
  rw [List.take_append_of_le_length h]
theorem rdI_end (hit h1 : Nat → Bool) {s tl : List Nat} {i u : Nat} (h : s[i]? = some u) (hu : hit u = tl.any h1) : RdI hit h1 s tl i tl.length = RdO hit s (i + 1) := by
  unfold RdI RdO
  rw [any_take h, List.take_length, hu]
theorem rdO_all (hit : Nat → Bool) (s : List Nat) : RdO hit s s.length = s.any hit := by unfold RdO; rw [List.take_length]
/-- the first m of a list, where they go on, are among some -/
def MetW (W : Nat → Option Bool) (tl s : List Nat) (m : Nat) : Prop := ∀ j c, j < m → tl[j]? = some c → W c = none → c ∈ s
theorem metW_all {W : Nat → Option Bool} {tl s : List Nat} (h : MetW W tl s tl.length) : ∀ c ∈ tl, W c = none → c ∈ s := by
  intro c hc
  obtain ⟨j, hj, e⟩ := List.getElem_of_mem hc
  exact h j c hj (by rw [List.getElem?_eq_getElem hj, e])
theorem metW_next {W : Nat → Option Bool} {tl s s' : List Nat} {m c : Nat} (h : MetW W tl s m) (hs : ∀ x ∈ s, x ∈ s') (hk : tl[m]? = some c) (hc : W c = none → c ∈ s') : MetW W tl s' (m + 1) := by
  intro j x hj hx hw
  by_cases e : j = m
  · subst e
    rw [hk] at hx
    cases hx
    exact hc hw
  · exact hs x (h j x (by omega) hx hw)
theorem winV_one (v : Option Bool) : (winV v == 1) = decide (v = some true) := by
  cases v with
  | none => rfl
  | some t => cases t <;> rfl

set_option maxRecDepth 100000 in
set_option maxHeartbeats 16000000 in
theorem walk_of (CA : AtC) (CE : EndC) (CN : NextC) (W : World) (v : Value) (p : Px) (S : PrAt W v p) (_ : ∀ y ∈ p.types, TyOk y) (z : ∀ y ∈ p.funcs, FxOk y) (ln : Lens p) (f : Int) (fw : (Lit.int .i64 f).wf = true) (r : Int) (_ : (Lit.int .i64 r).wf = true) (b : Int) (bw : (Lit.int .i64 b).wf = true) (pl : Int) (plw : (Lit.int .i64 pl).wf = true) (ht : Tab W) :
    Calls Tryd.prog 6 #[v, .int .i64 f, .int .i64 r, .agg #[.int .i64 b, .int .i64 pl]] W fun e W' => e = .returned (.bool true) ∧ Below W.heap.size W W' := by
  have v64f : I64 f := i64_wf fw
  have v64b : I64 b := i64_wf bw
  have v64pl : I64 pl := i64_wf plw
  have hok : POk p := fun f hf b hb => ⟨(z f hf b hb).1, fun y hy => ((z f hf b hb).2 y hy).1⟩
  have HOK := hid hok
  have hp0 := S
  obtain ⟨vt, vf, rfl, hvt, hvf⟩ := S
  obtain ⟨W1, hW1⟩ : ∃ W1, W1 = W.alloc (.cells #[vt, vf] 29) := ⟨_, rfl⟩
  obtain ⟨W0, hW0⟩ : ∃ W0, W0 = W1.alloc (.cells #[.int .i64 b, .int .i64 pl] 53) := ⟨_, rfl⟩
  have hb1 : Below W.heap.size W W1 := by rw [hW1]; exact alloc_below _ _
  have hs1 : W1.heap.size = W.heap.size + 1 := by rw [hW1]; simp
  have hb2 : Below W1.heap.size W1 W0 := by rw [hW0]; exact alloc_below _ _
  have k0 : W1.heap[W.heap.size]? = some (.cells #[vt, vf] 29 (0, 0)) := by rw [hW1]; exact alloc_new _ _
  have k2 : W0.heap[W1.heap.size]? = some (.cells #[.int .i64 b, .int .i64 pl] 53 (0, 0)) := by rw [hW0]; exact TyD.alloc_new _ _
  have k1 : W0.heap[W.heap.size]? = some (.cells #[vt, vf] 29 (0, 0)) := (hb2.block _ (Array.getElem?_eq_some_iff.1 k0).1).trans k0
  have hbW : Below W.heap.size W W0 := hb1.trans (hb2.mono hb1.size)
  rw [hs1] at k2
  have HP := hid (hp0.below hbW)
  have HT := hid (ht.on hbW)
  have HAL := hid (alive_of CA CE W0 HT.out)
  have HG := hid (fun wx (h : Aft W0 wx) => ShR.great_calls p _ 200 wx (HP.out.below h.below) ln (by decide) (by decide))
  obtain ⟨ta, tc, rfl⟩ := hvt.slice
  obtain ⟨fa, fc, rfl, _⟩ := hvf.slice
  have l0 : ∀ w', Aft W0 w' → w'.cell? ⟨W.heap.size, 0, none⟩ = some (.slice ta p.types.length tc) := later_cells k1 0 _ rfl
  have l1 : ∀ w', Aft W0 w' → w'.cell? ⟨W.heap.size, 1, none⟩ = some (.slice fa p.funcs.length fc) := later_cells k1 1 _ rfl
  have y0 : ∀ w', Aft W0 w' → w'.cell? ⟨W.heap.size + 1, 0, none⟩ = some (.int .i64 b) := later_cells k2 0 _ rfl
  have y1 : ∀ w', Aft W0 w' → w'.cell? ⟨W.heap.size + 1, 1, none⟩ = some (.int .i64 pl) := later_cells k2 1 _ rfl
  have HBW := hid hbW
  have HW1 := hid hW1
  have HW := hid hW0
  have h0 := Aft.refl W0
  have HIf := hid v64f
  have HIb := hid v64b
  have HIpl := hid v64pl
  clear hvt hvf hp0 hbW hW0 hW1 k1 k0 k2 hb1 hb2 hs1 z ln ht hok v64f fw v64b bw v64pl plw
  generalize p.types.length = n1 at *
  generalize p.funcs.length = n2 at *
  go_enter Tryd.func6, Tryd.ntmps6
  go_wp2_with fail
  rw [← HW1.out, ← HW.out]
  refine HAL.out.mono ?_
  rintro e w1 ⟨rfl, hb1⟩
  have h1 := h0.go hb1
  have HG1 := hid (HG.out w1 h1)
  clear HAL hb1 HG
  go_wp2_with fail
  refine HG1.out.mono ?_
  rintro e w2 ⟨gb, rfl, hsmall, hb2⟩
  have h2 := h1.go hb2
  clear HG1 hb2
  cases gb with
  | true =>
    clear hsmall
    go_wp2
    go_ret
    exact ⟨rfl, h2.out HBW.out⟩
  | false =>
  have HS := hid (hsmall rfl)
  clear hsmall h1 h0
  go_wp2_with fail
  have h2d := h2.drew
  go_region_held3 (fun w' => Aft W0 w') (exact h2d) (fail)
  all_goals
    obtain ⟨w3, hw3⟩ : ∃ w3, w3 = w2.drew := ⟨_, rfl⟩
    rw [← hw3] at h2d
    rw [← hw3]
    clear hw3 h2
    have HC := hid (CA p f b pl _ w3 (HP.out.below h2d.below) (HT.out.on h2d.below) HS.out HOK.out HIf.out HIb.out HIpl.out)
    go_wp2_with fail
    refine HC.out.mono ?_
    rintro e w4 ⟨u, rfl, hu, hb4⟩
    have h4 := h2d.go hb4
    have HU4 := hid hu
    obtain ⟨qa, qc, rfl, _⟩ := ints_slice hu
    have HR := hid (regsP_calls p f _ w4 (HP.out.below h4.below) (HT.out.on h4.below) HS.out HOK.out)
    clear HC hb4 hu h2d
    go_wp2_with fail
    refine HR.out.mono ?_
    rintro e w5 ⟨rfl, hb5⟩
    obtain ⟨cn, hcn⟩ : ∃ cn : Int, cn = (if findP p f = 0 then (cntP p f : Int) else 0) := ⟨_, rfl⟩
    rw [← hcn]
    have HCN := hid hcn
    clear hcn
    have h5 := h4.go hb5
    have HU := hid (HU4.out.below hb5)
    clear HR hb5 h4 HU4
    by_cases hz : atE p f b pl = 0
    rotate_left
    · have e0 : (atE p f b pl != 0) = true := by simpa using hz
      clear HU hz HCN
      generalize liveA p f b pl = la at *
      generalize atE p f b pl = ae at *
      generalize findP p f = fe at *
      go_wp2
      go_ret
      exact ⟨rfl, h5.out HBW.out⟩
    obtain ⟨hz0, p2, p3⟩ := atE_zero hz
    obtain ⟨hz1, b0, b1⟩ := ask_zero hz0
    rw [hz, hz1]
    by_cases r0 : r < 0
    · clear HU hz HCN
      generalize liveA p f b pl = la at *
      go_wp2
      all_goals first | (exfalso; omega) | (go_ret; exact ⟨rfl, h5.out HBW.out⟩)
    by_cases r1 : cn ≤ r
    · clear HU hz HCN
      generalize liveA p f b pl = la at *
      go_wp2
      all_goals first | (exfalso; omega) | (go_ret; exact ⟨rfl, h5.out HBW.out⟩)
    obtain ⟨rn, rfl⟩ : ∃ rn : Nat, r = rn := ⟨r.toNat, by omega⟩
    obtain ⟨j, rfl⟩ : ∃ j : Nat, b = j := ⟨b.toNat, by omega⟩
    obtain ⟨a, rfl⟩ : ∃ a : Nat, pl = a := ⟨pl.toNat, by omega⟩
    obtain ⟨k, x, hx⟩ := has1 hz1
    obtain ⟨hlow, hpos, hl16⟩ := low_fn HOK.out hz1
    have hbls := fn_blocks hx
    rw [hbls] at b1 hlow hl16 p3 hpos
    have hjl : j < x.blocks.length := by omega
    have hpa : a ≤ (insAt x.blocks j).length := by
      rw [insN_at hjl] at p3
      unfold insAt
      rw [List.getElem?_eq_getElem hjl]
      show a ≤ x.blocks[j].ins.length
      omega
    obtain ⟨N, hN⟩ : ∃ N, N = parOf p.types x.sig + manyB x.blocks := ⟨_, rfl⟩
    have hcnt : cntP p f = N := by rw [cnt_at hx, hN]
    have hcn : cn = (N : Int) := by rw [HCN.out, if_pos hz1, hcnt]
    have hrN : rn < N := by omega
    have hpar : parP p f = parOf p.types x.sig := by
      unfold parP ShK.fnP
      rw [hx.eq, Int.toNat_natCast, hx.at_]
      rfl
    have hli : liveA p f (j : Int) (a : Int) = ints (livesL (parOf p.types x.sig) N x.blocks j a) := by
      unfold liveA
      rw [if_pos hz, hcnt, hpar, hbls, Int.toNat_natCast, Int.toNat_natCast]
    rw [hli, ints_length] at HU
    rw [hli, ints_length]
    have hke := hx.eq
    have hkl := hx.lt
    subst hcn
    subst hke
    have HWC := hid (fun (c q : Nat) (hc : c < x.blocks.length) (hq : q ≤ (insAt x.blocks c).length) (wx : World) (h : Aft W0 wx) => within_calls p k x _ wx (HP.out.below h.below) (HT.out.on h.below) HS.out HOK.out hz1 hx rn c q hc hq)
    have HNX := hid (fun (c : Nat) (hc : c < x.blocks.length) (wx : World) (h : Aft W0 wx) => CN p (k : Int) (c : Int) _ wx (HP.out.below h.below) (HT.out.on h.below) HS.out HOK.out HIf.out ⟨by omega, by omega⟩)
    have HNE := hid (fun (c : Nat) (hc : c < x.blocks.length) => ask_yes (p := p) (f := k) (b := c) hz1 (by omega) (by rw [hbls]; omega))
    have HNS := hid (fun (c : Nat) (h : askB p k c = 0) => next_succ (b := c) HOK.out h)
    rw [hbls] at HNS
    have hR : Regs N x.blocks := by rw [hN]; exact regs_of (find_zero hz1).1 HOK.out (List.mem_of_getElem? hx.at_)
    have HR := hid hR
    have HLIV := hid (livB_iff (par := parOf p.types x.sig) (r := rn) hlow hjl hpa)
    have HLOW := hid hlow
    have HRN := hid hrN
    have HL16 := hid hl16
    obtain ⟨vt0, vf0, he0, ht0, hf0⟩ := HP.out
    cases he0
    obtain ⟨fb, foff, fcap, ao, bc, he, d0, d1, hbl⟩ := fn_later hf0 hx
    cases he
    have HBL := hid hbl
    have HPA := hid hpa
    clear HCN hz0 hz1 b0 b1 p2 p3 hz r0 r1 hx hlow hbls hN hcnt hpar hli hR hbl ht0 hf0 d0 hl16 hpa hpos hrN y0 y1
    obtain ⟨par, hpar⟩ : ∃ par, par = parOf p.types x.sig := ⟨_, rfl⟩
    rw [← hpar] at HWC HLIV HU
    rw [← hpar]
    obtain ⟨sg, bl⟩ := x
    simp only at *
    clear hpar
    have HWAYS := hid (fun seen (h1 : within (ownN par bl) rn j (endAt bl j) a ((insAt bl j).drop a) = none → Bfs (passT bl (ownN par bl) rn) bl.length j seen.length seen) (h2 : within (ownN par bl) rn j (endAt bl j) a ((insAt bl j).drop a) ≠ none → seen = []) => ways_lv HPA.out h1 h2)
    have HFIN : Hid (∀ seen, (within (ownN par bl) rn j (endAt bl j) a ((insAt bl j).drop a) = none → Bfs (passT bl (ownN par bl) rn) bl.length j seen.length seen) → (within (ownN par bl) rn j (endAt bl j) a ((insAt bl j).drop a) ≠ none → seen = []) → decide ((rn : Int) ∈ ints (livesL par N bl j a)) = (decide (within (ownN par bl) rn j (endAt bl j) a ((insAt bl j).drop a) = some true) || seen.any (hitB bl (ownN par bl) rn))) := by
      intro seen h1 h2
      rw [Bool.eq_iff_iff, decide_eq_true_iff, HWAYS.out seen h1 h2, ints_mem, livesL_mem, HLIV.out]
      exact ⟨fun h => h.2, fun h => ⟨HRN.out, h⟩⟩
    clear HWAYS HLIV
    have HPL := hid (pass_lt (own := ownN par bl) (r := rn) HLOW.out)
    have HVV := hid (fun c (hc : c < bl.length) wx (h : Aft W0 wx) => HWC.out c 0 hc (Nat.zero_le _) wx h)
    have HV0 := hid (HWC.out j a hjl HPA.out)
    generalize livesL par N bl j a = now at *
    generalize within (ownN par bl) rn j (endAt bl j) a ((insAt bl j).drop a) = V0 at *
    clear HWC
    have hrn := HRN.out
    have hrn2 : (rn : Int) < (N : Int) := by omega
    have hrn3 : ¬ (N : Int) ≤ (rn : Int) := by omega
    go_wp2_with fail
    all_goals (try (exfalso; omega))
    refine (HV0.out w5 h5).mono ?_
    rintro e w6 ⟨rfl, hb6⟩
    have h6 := h5.go hb6
    have HU6 := hid (HU.out.below hb6)
    have hb7 := alloc_below w6 (.cells #[] 3)
    have h7 := h6.go hb7
    have HO7 := hid (owns_lit_at w6 w6 (ints []) w6.heap.size 0 #[] (Nat.le_refl _) rfl rfl rfl (by simp [ints]))
    have HU7 := hid (HU6.out.below hb7)
    have HB7 := hid hb7
    clear hb6 HU h5 hb7
    go_wp2_with fail
    refine (HV0.out _ h7).mono ?_
    rintro e w8 ⟨rfl, hb8⟩
    have h8 := h7.go hb8
    have HU8 := hid (HU7.out.below hb8)
    have HO8 := hid (ownsRow_below HO7.out hb8)
    have HB8 : Hid (Below w6.heap.size w6 w8) := HB7.out.trans (hb8.mono HB7.out.size)
    clear hb8 HU7 HO7 HB7 HV0 h7
    by_cases hV : V0 = none
    rotate_left
    · have HF := hid (HFIN.out [] (fun h => absurd h hV) (fun _ => rfl))
      have e1 : (winV V0 == 1) = decide (V0 = some true) := by
        cases V0 with
        | none => exact absurd rfl hV
        | some t => cases t <;> rfl
      have e0 : (winV V0 == 0) = false := by
        cases V0 with
        | none => exact absurd rfl hV
        | some t => cases t <;> rfl
      have HAM := hid (among_same _ _ (rn : Int) w8 HU8.out)
      rw [HF.out, List.any_nil, Bool.or_false] at HAM
      rw [e1]
      clear HFIN HF hV HPL HVV HU8 HO8 HB8 e1
      generalize decide (V0 = some true) = vb at *
      generalize winV V0 = vi at *
      go_wp2_with fail
      go_loopg [16, 17, 18] 0 (fun gk rv u iv wr => rv = .bool vb ∧ u = .slice (some ⟨w6.heap.size, 0, none⟩) 0 0 ∧ iv = .int .i64 0 ∧ w8 = wr)
      case atStart => exact ⟨rfl, rfl, rfl, rfl⟩
      case round =>
        obtain ⟨rfl, rfl, rfl, rfl⟩ := hrel
        go_wp2_with fail
        refine HAM.out.mono ?_
        rintro e w9 ⟨rfl, rfl⟩
        have hvv : (vb == vb) = true := by simp
        clear HAM
        go_wp2
        go_ret
        exact ⟨rfl, h8.out HBW.out⟩
    · subst hV
      have e1 : (winV none == 1) = false := rfl
      have e0 : (winV none == 0) = true := rfl
      have HF := hid (fun seen (h : Bfs (passT bl (ownN par bl) rn) bl.length j seen.length seen) => show decide ((rn : Int) ∈ ints now) = seen.any (hitB bl (ownN par bl) rn) by simpa using HFIN.out seen (fun _ => h) (fun h => absurd rfl h))
      have HPM : Hid (∀ u c, c ∈ passT bl (ownN par bl) rn u ↔ c ∈ succ bl u ∧ win bl (ownN par bl) rn c = none) := fun u c => by unfold passT; rw [List.mem_filter, decide_eq_true_iff]
      have HHB : Hid (∀ u, hitB bl (ownN par bl) rn u = (succ bl u).any (fun c => LvM.byPhi bl rn u c || decide (win bl (ownN par bl) rn c = some true))) := fun u => rfl
      have hw0 : ∀ c, within (ownN par bl) rn c (endAt bl c) 0 (insAt bl c) = win bl (ownN par bl) rn c := fun c => rfl
      have z0 : ((0 : Nat) : Int) = 0 := rfl
      have HWV := HVV.out
      simp only [List.drop_zero, z0, hw0] at HWV
      have HWV := hid HWV
      have HST := hid (Bfs.start (t := passT bl (ownN par bl) rn) hjl)
      obtain ⟨bb, boff, rfl⟩ : ∃ bb boff, ao = some ⟨bb, boff, none⟩ := by
        obtain ⟨gb, goff, _, _, hao, _⟩ := blk_ins HBL.out hjl
        exact ⟨gb, goff, hao⟩
      have hki : (k : Int) < (p.funcs.length : Int) := by omega
      clear hw0 z0 HVV HFIN
      generalize passT bl (ownN par bl) rn = Pt at *
      generalize hitB bl (ownN par bl) rn = hB at *
      generalize win bl (ownN par bl) rn = WV at *
      generalize ownN par bl = own at *
      rw [e1]
      have hbA : Below w8.heap.size w8 (w8.alloc (.cells #[.int .i64 j] 3)) := alloc_below _ _
      have HO9 := hid (HO8.out.alloc (.cells #[.int .i64 j] 3))
      have HI9 := hid (ints_one (w := w8.alloc (.cells #[.int .i64 j] 3)) (b := w8.heap.size) (n := (j : Int)) (cell_new _ _ _ _ rfl) (size_new _ _ _ rfl))
      have HB9 := hid (HB8.out.trans (hbA.mono HB8.out.size))
      have hsz : w6.heap.size ≤ (w8.alloc (.cells #[.int .i64 j] 3)).heap.size := HB9.out.size
      clear hbA HO8 HB8 HU8
      go_wp2_with (at_builtin; refine wpList_append_intsN rfl (.tmp 79) (.tmp 81) rfl w6.heap.size (.slice (some ⟨w6.heap.size, 0, none⟩) 0 0) rfl 0 (intVals (ints [])) HO9.out (by omega) (.slice (some ⟨w8.heap.size, 0, none⟩) 1 1) [(j : Int)] rfl HI9.out (by simp) hsz ?_)
      intro v10 w10 hown10 hgr10 hnr10
      have HB10 := hid (own_grown HB9.out HO9.out hgr10 hsz)
      have HO10 : Hid (w10.ownsRow w6.heap.size 3 1 v10 [j].length (intVals (ints [j]))) := hown10
      obtain ⟨va, vn, rfl⟩ := own_slice hown10
      clear hown10 hgr10 hnr10 HO9 HI9 HB9 hsz h8
      go_wp2_with fail
      go_loopg [16, 17, 18] bl.length (fun gk rv u iv wr => ∃ (i : Nat) (seen : List Nat), i + gk = bl.length ∧ i ≤ seen.length ∧ rv = .bool (RdO hB seen i) ∧ iv = .int .i64 i ∧ Bfs Pt bl.length j i seen ∧ wr.ownsRow w6.heap.size 3 1 u seen.length (intVals (ints seen)) ∧ Below w6.heap.size w6 wr)
      case atStart => exact ⟨0, [j], by omega, by simp, rfl, rfl, HST.out, HO10.out, HB10.out⟩
      case round =>
        obtain ⟨i, seen, hi, his, rfl, rfl, hbfs, hown, hbe⟩ := hrel
        have HI := hid hi
        have HBF := hid hbfs
        have HOWN := hid hown
        have HBE := hid hbe
        have hsl : seen.length ≤ 16 := Nat.le_trans hbfs.len HL16.out
        have HSL := hid hsl
        have hA : Aft W0 wr := h6.go hbe
        obtain ⟨ua, un, rfl⟩ := own_slice hown
        clear HO10 HB10 HST
        by_cases hlt : i < seen.length
        · have HKL := hid hlt
          have hk40 : i < 40 := by omega
          have hil : (i : Int) < (seen.length : Int) := by omega
          have hk41 : (i : Int) < 40 := by omega
          obtain ⟨u, hgu⟩ := some_at hlt
          have hu : u < bl.length := hbfs.lt _ (List.mem_of_getElem? hgu)
          obtain ⟨b2, o2, rfl, c2⟩ := nat_at (intsAt_of_owns hown (by rw [ints_length]; omega)) hgu
          have HGU := hid hgu
          have HU2 := hid hu
          have cs := later c2
          have hAd : Aft W0 wr.drew := hA.drew
          have hD := (Aft.refl wr).drew
          have r0 := fun w' (h : Aft wr w') => l0 w' (hA.trans h)
          have r1 := fun w' (h : Aft wr w') => l1 w' (hA.trans h)
          have HCC := hid (HNX.out u hu wr.drew hAd)
          rw [HNE.out _ hu, HNS.out _ (HNE.out _ hu)] at HCC
          have HS3 := hid (succ_len bl u)
          have HLT2 := hid (succ_lt HLOW.out u hu)
          have HPUT := hid (fun (s : List Nat) (c : Nat) (h : Bfs Pt bl.length j i s) (h1 : s[i]? = some u) (h2 : c ∈ succ bl u) (hw : WV c = none) (h3 : c ∉ s) (h4 : i ≤ s.length) => h.put HPL.out (List.mem_of_getElem? h1) ((HPM.out _ _).2 ⟨h2, hw⟩) h3 h4)
          have HNX2 := hid (fun (s : List Nat) (h : Bfs Pt bl.length j i s) (h1 : s[i]? = some u) (h2 : ∀ c ∈ succ bl u, WV c = none → c ∈ s) => h.next h1 (fun c hc => h2 c ((HPM.out _ _).1 hc).1 ((HPM.out _ _).1 hc).2))
          have HHU := hid (HHB.out u)
          clear hi hown hbfs hgu hu c2 HNX HNE HNS HPM HHB HPL HF
          generalize hh : (fun c => LvM.byPhi bl rn u c || decide (WV c = some true)) = h1 at *
          have HH1 : Hid (∀ c, h1 c = (LvM.byPhi bl rn u c || decide (WV c = some true))) := fun c => by rw [← hh]
          generalize succ bl u = tl at *
          clear hh
          go_wp2_with fail
          go_region_held3 (fun w' => Aft wr w') (first | exact hD.go hb3 | exact hD)
            ((go_at_call 18; refine HCC.out.mono ?_; rintro e w3 ⟨lu, rfl, hlu, hb3⟩))
          all_goals
            have h3 := hD.go hb3
            have HO3 := hid (ownsRow_below HOWN.out h3.below)
            have HAP := hid (apart_of hlu (u := .slice (some ⟨b2, o2, none⟩) seen.length un) (fun g hg => (HOWN.out.lt g hg).2))
            have HLU := hid hlu.1
            have HB3 := hid (HBE.out.trans (h3.below.mono HBE.out.size))
            obtain ⟨la, lc, rfl, _⟩ := ints_slice hlu.1
            rw [ints_length] at HLU HAP
            rw [ints_length]
            obtain ⟨g1, hg1⟩ : ∃ g1 : Nat, g1 = gk := ⟨gk, rfl⟩
            subst hg1
            have HR0 := hid (rdI_zero hB h1 seen tl i)
            clear HCC hlu hb3 HOWN r0 r1 hD hAd hA h3 cs hbe HBE
            go_wp2_with fail
            go_loopg [16, 17, 21] tl.length (fun gk rv uv jv wr => ∃ (m : Nat) (s : List Nat), m + gk = tl.length ∧ i ≤ s.length ∧ s.length ≤ 16 ∧ rv = .bool (RdI hB h1 s tl i m) ∧ jv = .int .i64 m ∧ Bfs Pt bl.length j i s ∧ s[i]? = some u ∧ MetW WV tl s m ∧ wr.ownsRow w6.heap.size 3 1 uv s.length (intVals (ints s)) ∧ IntsAt wr (.slice la tl.length lc) (ints tl) ∧ Apart uv wr (.slice la tl.length lc) ∧ Below w6.heap.size w6 wr)
            case atStart => exact ⟨0, seen, by omega, his, hsl, by rw [HR0.out], rfl, HBF.out, HGU.out, (fun j c hj => by omega), HO3.out, HLU.out, HAP.out, HB3.out⟩
            case round =>
              obtain ⟨m, s, hm, his2, hs16, rfl, rfl, hbf, hsk, hmet, hown, hli, hap, hbe⟩ := hrel
              have HM := hid hm
              have HBF2 := hid hbf
              have HSK := hid hsk
              have HMET := hid hmet
              have HOWN := hid hown
              have HLI := hid hli
              have HAP2 := hid hap
              have HBE2 := hid hbe
              have HKS := hid his2
              have HS16 := hid hs16
              have hA : Aft W0 wr := h6.go hbe
              obtain ⟨va, vn, rfl⟩ := own_slice hown
              clear HLU HAP HO3 HB3 HR0
              by_cases hmt : m < tl.length
              · have HMT := hid hmt
                obtain ⟨c, hgm⟩ := some_at hmt
                obtain ⟨b4, o4, rfl, c4⟩ := nat_at hli hgm
                obtain ⟨b5, o5, rfl, c5⟩ := nat_at (intsAt_of_owns hown (by rw [ints_length]; omega)) hsk
                have hmem := List.mem_of_getElem? hgm
                have hcl := HLT2.out _ hmem
                have hci : (c : Int) < (bl.length : Int) := by omega
                have hjl2 : (m : Int) < (tl.length : Int) := by omega
                have hjb : m ≤ 9223372036854775806 := by have := HS3.out; omega
                have hisl : i < s.length := (List.getElem?_eq_some_iff.1 hsk).1
                have hisl2 : (i : Int) < (s.length : Int) := by omega
                obtain ⟨gb, goff, xa, xc, hao, z0, hins, z1, z2, z3, z4⟩ := blk_ins HBL.out hcl
                cases hao
                have hfx := insAt_facts HR.out hcl
                have hby := fun wx (h : Aft wr wx) => byPhi_calls (insAt bl c) rn u xa xc (endAt bl c).kind (endAt bl c).a (endAt bl c).to (endAt bl c).els wx (hins.below insStays (hA.trans h).below) hfx.2 hfx.1
                simp only [← byPhi_hit] at hby
                have HBY := hid hby
                have HWC2 := hid (fun wx (h : Aft wr wx) => HWV.out c hcl wx (hA.trans h))
                have HAM := hid (fun wx (h : Aft wr wx) => among_same (.slice (some ⟨b5, o5, none⟩) s.length vn) (ints s) c wx ((intsAt_of_owns hown (by rw [ints_length]; omega)).below h.below))
                have hdec : decide ((c : Int) ∈ ints s) = decide (c ∈ s) := decide_eq_decide.2 ints_mem
                rw [hdec] at HAM
                have HRS := hid (rdI_step hB h1 (s := s) (i := i) hgm)
                rw [HH1.out c] at HRS
                have HRP := hid (rdI_put hB h1 tl (c := c) (j := m + 1) his2)
                have HPC := hid (fun (hw : WV c = none) (hn : c ∉ s) => HPUT.out s c HBF2.out HSK.out hmem hw hn HKS.out)
                have HMN := hid (fun (s' : List Nat) (hs : ∀ x ∈ s, x ∈ s') (h : WV c = none → c ∈ s') => metW_next (s' := s') HMET.out hs hgm h)
                have q0 := fun w' (h : Aft wr w') => l0 w' (hA.trans h)
                have q1 := fun w' (h : Aft wr w') => l1 w' (hA.trans h)
                have q2 := fun w' (h : Aft wr w') => d1 w' (hA.trans h)
                have y0 := fun w' (h : Aft wr w') => z0 w' (hA.trans h)
                have y1 := fun w' (h : Aft wr w') => z1 w' (hA.trans h)
                have y2 := fun w' (h : Aft wr w') => z2 w' (hA.trans h)
                have y3 := fun w' (h : Aft wr w') => z3 w' (hA.trans h)
                have y4 := fun w' (h : Aft wr w') => z4 w' (hA.trans h)
                have p4 := later c4
                have p5 := later c5
                clear hm hbf hsk hmet hown hli hap hbe hgm hdec c4 c5 his2 z0 z1 z2 z3 z4 hby hfx hins hmem l0 l1 d1 HPUT HNX2 HH1 HHU HWV HBL HR HLT2 hA
                generalize RdI hB h1 s tl i m = rd at *
                generalize LvM.byPhi bl rn u c = ph at *
                generalize (insAt bl c).length = xl at *
                generalize endAt bl c = en at *
                generalize WV c = wv at *
                obtain ⟨ek, ea, et, ee⟩ := en
                simp only at *
                have HW1 := hid (winV_one wv)
                have hD := (Aft.refl wr).drew
                go_upto_region 20 with fail
                go_cut [16] from 103 to 165 (fun rv wd => rv = .bool (rd || (ph || decide (wv = some true))) ∧ Aft wr wd)
                case first =>
                  cases hrd : rd with
                  | true =>
                    have HRD := hid hrd
                    clear hrd
                    refine wp_region_noPanic ?_
                    refine wp_region_Z (S := (fun w' => Aft wr w')) (Z := []) (by kernel_rfl) ?_ (fun hHeld => ?_)
                    · (try dsimp only)
                      (exact hD)
                    refine wpAnyZ_takeP (i := 0) (oi := { dst := some 109, op := Go.Op.move (Go.Operand.tmp 16), type := 4, pos := "outright.go:164", after := #[], guard := none }) (v := ?_) rfl (by kernel_rfl) (by kernel_rfl) (by kernel_rfl) (by kernel_rfl) (fun _ _ _ h => h) (Or.inl ⟨by rfl, ?_⟩) (fun _ => by assumption) ?_
                    rotate_left
                    · intro w hSw; (try dsimp only at hSw); go_simp; all_goals (try with_reducible rfl)
                    try simp only [Act.put, List.setIfInBounds_toArray, List.set_cons_zero, List.set_cons_succ]
                    refine wpAnyZ_takeP (i := 1) (oi := { dst := some 110, op := Go.Op.move (Go.Operand.tmp 109), type := 4, pos := "outright.go:164", after := #[{ on := 0, ground := Go.Ground.data }], guard := none }) (v := ?_) rfl (by kernel_rfl) (by kernel_rfl) (by kernel_rfl) (by kernel_rfl) (fun _ _ _ h => h) (Or.inl ⟨by rfl, ?_⟩) (fun _ => by assumption) ?_
                    rotate_left
                    · intro w hSw; (try dsimp only at hSw); go_simp; all_goals (try with_reducible rfl)
                    try simp only [Act.put, List.setIfInBounds_toArray, List.set_cons_zero, List.set_cons_succ]
                    refine wpAnyZ_takeP (i := 2) (oi := { dst := some 111, op := Go.Op.fieldAddr 29 (Go.Operand.tmp 4) 1, type := 0, pos := "outright.go:164", after := #[{ on := 1, ground := Go.Ground.guard }], guard := some (1, false) }) (v := undef) rfl (by kernel_rfl) (by kernel_rfl) (by kernel_rfl) (by kernel_rfl) (fun _ _ _ h => h) (Or.inr ⟨by rfl, rfl⟩) (fun _ => by assumption) ?_
                    try simp only [Act.put, List.setIfInBounds_toArray, List.set_cons_zero, List.set_cons_succ]
                    refine wpAnyZ_takeP (i := 3) (oi := { dst := some 112, op := Go.Op.load 27 (Go.Operand.tmp 111), type := 27, pos := "outright.go:164", after := #[{ on := 2, ground := Go.Ground.data }, { on := 1, ground := Go.Ground.guard }], guard := some (1, false) }) (v := undef) rfl (by kernel_rfl) (by kernel_rfl) (by kernel_rfl) (by kernel_rfl) (fun _ _ _ h => h) (Or.inr ⟨by rfl, rfl⟩) (fun _ => by assumption) ?_
                    try simp only [Act.put, List.setIfInBounds_toArray, List.set_cons_zero, List.set_cons_succ]
                    refine wpAnyZ_takeP (i := 4) (oi := { dst := some 113, op := Go.Op.move (Go.Operand.tmp 1), type := 3, pos := "outright.go:164", after := #[{ on := 1, ground := Go.Ground.guard }], guard := some (1, false) }) (v := undef) rfl (by kernel_rfl) (by kernel_rfl) (by kernel_rfl) (by kernel_rfl) (fun _ _ _ h => h) (Or.inr ⟨by rfl, rfl⟩) (fun _ => by assumption) ?_
                    try simp only [Act.put, List.setIfInBounds_toArray, List.set_cons_zero, List.set_cons_succ]
                    refine wpAnyZ_takeP (i := 5) (oi := { dst := some 114, op := Go.Op.indexAddr 27 (Go.Operand.tmp 112) (Go.Operand.tmp 113), type := 0, pos := "outright.go:164", after := #[{ on := 3, ground := Go.Ground.data }, { on := 4, ground := Go.Ground.data }, { on := 1, ground := Go.Ground.guard }], guard := some (1, false) }) (v := undef) rfl (by kernel_rfl) (by kernel_rfl) (by kernel_rfl) (by kernel_rfl) (fun _ _ _ h => h) (Or.inr ⟨by rfl, rfl⟩) (fun _ => by assumption) ?_
                    try simp only [Act.put, List.setIfInBounds_toArray, List.set_cons_zero, List.set_cons_succ]
                    refine wpAnyZ_takeP (i := 6) (oi := { dst := some 115, op := Go.Op.fieldAddr 44 (Go.Operand.tmp 114) 1, type := 0, pos := "outright.go:164", after := #[{ on := 5, ground := Go.Ground.data }, { on := 1, ground := Go.Ground.guard }], guard := some (1, false) }) (v := undef) rfl (by kernel_rfl) (by kernel_rfl) (by kernel_rfl) (by kernel_rfl) (fun _ _ _ h => h) (Or.inr ⟨by rfl, rfl⟩) (fun _ => by assumption) ?_
                    try simp only [Act.put, List.setIfInBounds_toArray, List.set_cons_zero, List.set_cons_succ]
                    refine wpAnyZ_takeP (i := 7) (oi := { dst := some 116, op := Go.Op.load 42 (Go.Operand.tmp 115), type := 42, pos := "outright.go:164", after := #[{ on := 6, ground := Go.Ground.data }, { on := 1, ground := Go.Ground.guard }], guard := some (1, false) }) (v := undef) rfl (by kernel_rfl) (by kernel_rfl) (by kernel_rfl) (by kernel_rfl) (fun _ _ _ h => h) (Or.inr ⟨by rfl, rfl⟩) (fun _ => by assumption) ?_
                    try simp only [Act.put, List.setIfInBounds_toArray, List.set_cons_zero, List.set_cons_succ]
                    refine wpAnyZ_takeP (i := 8) (oi := { dst := some 117, op := Go.Op.move (Go.Operand.tmp 19), type := 22, pos := "outright.go:164", after := #[{ on := 1, ground := Go.Ground.guard }], guard := some (1, false) }) (v := undef) rfl (by kernel_rfl) (by kernel_rfl) (by kernel_rfl) (by kernel_rfl) (fun _ _ _ h => h) (Or.inr ⟨by rfl, rfl⟩) (fun _ => by assumption) ?_
                    try simp only [Act.put, List.setIfInBounds_toArray, List.set_cons_zero, List.set_cons_succ]
                    refine wpAnyZ_takeP (i := 9) (oi := { dst := some 118, op := Go.Op.move (Go.Operand.tmp 21), type := 3, pos := "outright.go:164", after := #[{ on := 1, ground := Go.Ground.guard }], guard := some (1, false) }) (v := undef) rfl (by kernel_rfl) (by kernel_rfl) (by kernel_rfl) (by kernel_rfl) (fun _ _ _ h => h) (Or.inr ⟨by rfl, rfl⟩) (fun _ => by assumption) ?_
                    try simp only [Act.put, List.setIfInBounds_toArray, List.set_cons_zero, List.set_cons_succ]
                    refine wpAnyZ_takeP (i := 10) (oi := { dst := some 119, op := Go.Op.indexAddr 22 (Go.Operand.tmp 117) (Go.Operand.tmp 118), type := 0, pos := "outright.go:164", after := #[{ on := 8, ground := Go.Ground.data }, { on := 9, ground := Go.Ground.data }, { on := 1, ground := Go.Ground.guard }], guard := some (1, false) }) (v := undef) rfl (by kernel_rfl) (by kernel_rfl) (by kernel_rfl) (by kernel_rfl) (fun _ _ _ h => h) (Or.inr ⟨by rfl, rfl⟩) (fun _ => by assumption) ?_
                    try simp only [Act.put, List.setIfInBounds_toArray, List.set_cons_zero, List.set_cons_succ]
                    refine wpAnyZ_takeP (i := 11) (oi := { dst := some 120, op := Go.Op.load 3 (Go.Operand.tmp 119), type := 3, pos := "outright.go:164", after := #[{ on := 10, ground := Go.Ground.data }, { on := 1, ground := Go.Ground.guard }], guard := some (1, false) }) (v := undef) rfl (by kernel_rfl) (by kernel_rfl) (by kernel_rfl) (by kernel_rfl) (fun _ _ _ h => h) (Or.inr ⟨by rfl, rfl⟩) (fun _ => by assumption) ?_
                    try simp only [Act.put, List.setIfInBounds_toArray, List.set_cons_zero, List.set_cons_succ]
                    refine wpAnyZ_takeP (i := 12) (oi := { dst := some 121, op := Go.Op.indexAddr 42 (Go.Operand.tmp 116) (Go.Operand.tmp 120), type := 0, pos := "outright.go:164", after := #[{ on := 7, ground := Go.Ground.data }, { on := 11, ground := Go.Ground.data }, { on := 1, ground := Go.Ground.guard }], guard := some (1, false) }) (v := undef) rfl (by kernel_rfl) (by kernel_rfl) (by kernel_rfl) (by kernel_rfl) (fun _ _ _ h => h) (Or.inr ⟨by rfl, rfl⟩) (fun _ => by assumption) ?_
                    try simp only [Act.put, List.setIfInBounds_toArray, List.set_cons_zero, List.set_cons_succ]
                    refine wpAnyZ_takeP (i := 13) (oi := { dst := some 122, op := Go.Op.load 41 (Go.Operand.tmp 121), type := 41, pos := "outright.go:164", after := #[{ on := 12, ground := Go.Ground.data }, { on := 1, ground := Go.Ground.guard }], guard := some (1, false) }) (v := undef) rfl (by kernel_rfl) (by kernel_rfl) (by kernel_rfl) (by kernel_rfl) (fun _ _ _ h => h) (Or.inr ⟨by rfl, rfl⟩) (fun _ => by assumption) ?_
                    try simp only [Act.put, List.setIfInBounds_toArray, List.set_cons_zero, List.set_cons_succ]
                    refine wpAnyZ_takeP (i := 14) (oi := { dst := some 123, op := Go.Op.move (Go.Operand.tmp 2), type := 3, pos := "outright.go:164", after := #[{ on := 1, ground := Go.Ground.guard }], guard := some (1, false) }) (v := undef) rfl (by kernel_rfl) (by kernel_rfl) (by kernel_rfl) (by kernel_rfl) (fun _ _ _ h => h) (Or.inr ⟨by rfl, rfl⟩) (fun _ => by assumption) ?_
                    try simp only [Act.put, List.setIfInBounds_toArray, List.set_cons_zero, List.set_cons_succ]
                    refine wpAnyZ_takeP (i := 15) (oi := { dst := some 124, op := Go.Op.move (Go.Operand.tmp 17), type := 22, pos := "outright.go:164", after := #[{ on := 1, ground := Go.Ground.guard }], guard := some (1, false) }) (v := undef) rfl (by kernel_rfl) (by kernel_rfl) (by kernel_rfl) (by kernel_rfl) (fun _ _ _ h => h) (Or.inr ⟨by rfl, rfl⟩) (fun _ => by assumption) ?_
                    try simp only [Act.put, List.setIfInBounds_toArray, List.set_cons_zero, List.set_cons_succ]
                    refine wpAnyZ_takeP (i := 16) (oi := { dst := some 125, op := Go.Op.move (Go.Operand.tmp 18), type := 3, pos := "outright.go:164", after := #[{ on := 1, ground := Go.Ground.guard }], guard := some (1, false) }) (v := undef) rfl (by kernel_rfl) (by kernel_rfl) (by kernel_rfl) (by kernel_rfl) (fun _ _ _ h => h) (Or.inr ⟨by rfl, rfl⟩) (fun _ => by assumption) ?_
                    try simp only [Act.put, List.setIfInBounds_toArray, List.set_cons_zero, List.set_cons_succ]
                    refine wpAnyZ_takeP (i := 17) (oi := { dst := some 126, op := Go.Op.indexAddr 22 (Go.Operand.tmp 124) (Go.Operand.tmp 125), type := 0, pos := "outright.go:164", after := #[{ on := 15, ground := Go.Ground.data }, { on := 16, ground := Go.Ground.data }, { on := 1, ground := Go.Ground.guard }], guard := some (1, false) }) (v := undef) rfl (by kernel_rfl) (by kernel_rfl) (by kernel_rfl) (by kernel_rfl) (fun _ _ _ h => h) (Or.inr ⟨by rfl, rfl⟩) (fun _ => by assumption) ?_
                    try simp only [Act.put, List.setIfInBounds_toArray, List.set_cons_zero, List.set_cons_succ]
                    refine wpAnyZ_takeP (i := 18) (oi := { dst := some 127, op := Go.Op.load 3 (Go.Operand.tmp 126), type := 3, pos := "outright.go:164", after := #[{ on := 17, ground := Go.Ground.data }, { on := 1, ground := Go.Ground.guard }], guard := some (1, false) }) (v := undef) rfl (by kernel_rfl) (by kernel_rfl) (by kernel_rfl) (by kernel_rfl) (fun _ _ _ h => h) (Or.inr ⟨by rfl, rfl⟩) (fun _ => by assumption) ?_
                    try simp only [Act.put, List.setIfInBounds_toArray, List.set_cons_zero, List.set_cons_succ]
                    refine wpAnyZ_takeP (i := 19) (oi := { dst := some 128, op := Go.Op.call { callee := Go.Callee.value (Go.Operand.func 20), args := #[Go.Operand.tmp 122, Go.Operand.tmp 123, Go.Operand.tmp 127], argTypes := #[41, 3, 3] }, type := 4, pos := "outright.go:164", after := #[{ on := 13, ground := Go.Ground.data }, { on := 14, ground := Go.Ground.data }, { on := 18, ground := Go.Ground.data }, { on := 1, ground := Go.Ground.chain }, { on := 1, ground := Go.Ground.guard }], guard := some (1, false) }) (v := undef) rfl (by kernel_rfl) (by kernel_rfl) (by kernel_rfl) (by kernel_rfl) (fun _ _ _ h => h) (Or.inr ⟨by rfl, rfl⟩) (fun _ => by assumption) ?_
                    try simp only [Act.put, List.setIfInBounds_toArray, List.set_cons_zero, List.set_cons_succ]
                    refine wpAnyZ_ready (rs := [20]) (by kernel_rfl) (by simp) ?_
                    refine AllReadyZ.cons (o := { dst := some 129, op := Go.Op.pick (Go.Operand.tmp 110) (Go.Operand.const (Go.Value.bool true)) (Go.Operand.tmp 128), type := 4, pos := "outright.go:164", after := #[{ on := 1, ground := Go.Ground.data }, { on := 19, ground := Go.Ground.data }], guard := none }) rfl (fun K hK => ?_) ?_
                    · go_simp
                      refine hK.out _ _ ?_ (fun hHeld => ?_)
                      · (try dsimp only)
                        (exact hD)
                      clear hK K
                      try simp only [Act.put, List.setIfInBounds_toArray, List.set_cons_zero, List.set_cons_succ]
                      refine wpAnyZ_takeP (i := 21) (oi := { dst := some 130, op := Go.Op.move (Go.Operand.tmp 129), type := 4, pos := "outright.go:164", after := #[{ on := 20, ground := Go.Ground.data }, { on := 19, ground := Go.Ground.chain }], guard := none }) (v := ?_) rfl (by kernel_rfl) (by kernel_rfl) (by kernel_rfl) (by kernel_rfl) (fun _ _ _ h => h) (Or.inl ⟨by rfl, ?_⟩) (fun _ => by assumption) ?_
                      rotate_left
                      · intro w hSw; (try dsimp only at hSw); go_simp; all_goals (try with_reducible rfl)
                      try simp only [Act.put, List.setIfInBounds_toArray, List.set_cons_zero, List.set_cons_succ]
                      refine wpAnyZ_takeP (i := 22) (oi := { dst := some 131, op := Go.Op.load 29 (Go.Operand.tmp 4), type := 29, pos := "outright.go:164", after := #[{ on := 21, ground := Go.Ground.guard }], guard := some (21, false) }) (v := undef) rfl (by kernel_rfl) (by kernel_rfl) (by kernel_rfl) (by kernel_rfl) (fun _ _ _ h => h) (Or.inr ⟨by rfl, rfl⟩) (fun _ => by assumption) ?_
                      try simp only [Act.put, List.setIfInBounds_toArray, List.set_cons_zero, List.set_cons_succ]
                      refine wpAnyZ_takeP (i := 23) (oi := { dst := some 132, op := Go.Op.move (Go.Operand.tmp 1), type := 3, pos := "outright.go:164", after := #[{ on := 21, ground := Go.Ground.guard }], guard := some (21, false) }) (v := undef) rfl (by kernel_rfl) (by kernel_rfl) (by kernel_rfl) (by kernel_rfl) (fun _ _ _ h => h) (Or.inr ⟨by rfl, rfl⟩) (fun _ => by assumption) ?_
                      try simp only [Act.put, List.setIfInBounds_toArray, List.set_cons_zero, List.set_cons_succ]
                      refine wpAnyZ_takeP (i := 24) (oi := { dst := some 133, op := Go.Op.move (Go.Operand.tmp 2), type := 3, pos := "outright.go:164", after := #[{ on := 21, ground := Go.Ground.guard }], guard := some (21, false) }) (v := undef) rfl (by kernel_rfl) (by kernel_rfl) (by kernel_rfl) (by kernel_rfl) (fun _ _ _ h => h) (Or.inr ⟨by rfl, rfl⟩) (fun _ => by assumption) ?_
                      try simp only [Act.put, List.setIfInBounds_toArray, List.set_cons_zero, List.set_cons_succ]
                      refine wpAnyZ_takeP (i := 25) (oi := { dst := some 134, op := Go.Op.move (Go.Operand.tmp 19), type := 22, pos := "outright.go:164", after := #[{ on := 21, ground := Go.Ground.guard }], guard := some (21, false) }) (v := undef) rfl (by kernel_rfl) (by kernel_rfl) (by kernel_rfl) (by kernel_rfl) (fun _ _ _ h => h) (Or.inr ⟨by rfl, rfl⟩) (fun _ => by assumption) ?_
                      try simp only [Act.put, List.setIfInBounds_toArray, List.set_cons_zero, List.set_cons_succ]
                      refine wpAnyZ_takeP (i := 26) (oi := { dst := some 135, op := Go.Op.move (Go.Operand.tmp 21), type := 3, pos := "outright.go:164", after := #[{ on := 21, ground := Go.Ground.guard }], guard := some (21, false) }) (v := undef) rfl (by kernel_rfl) (by kernel_rfl) (by kernel_rfl) (by kernel_rfl) (fun _ _ _ h => h) (Or.inr ⟨by rfl, rfl⟩) (fun _ => by assumption) ?_
                      try simp only [Act.put, List.setIfInBounds_toArray, List.set_cons_zero, List.set_cons_succ]
                      refine wpAnyZ_takeP (i := 27) (oi := { dst := some 136, op := Go.Op.indexAddr 22 (Go.Operand.tmp 134) (Go.Operand.tmp 135), type := 0, pos := "outright.go:164", after := #[{ on := 25, ground := Go.Ground.data }, { on := 26, ground := Go.Ground.data }, { on := 21, ground := Go.Ground.guard }], guard := some (21, false) }) (v := undef) rfl (by kernel_rfl) (by kernel_rfl) (by kernel_rfl) (by kernel_rfl) (fun _ _ _ h => h) (Or.inr ⟨by rfl, rfl⟩) (fun _ => by assumption) ?_
                      try simp only [Act.put, List.setIfInBounds_toArray, List.set_cons_zero, List.set_cons_succ]
                      refine wpAnyZ_takeP (i := 28) (oi := { dst := some 137, op := Go.Op.load 3 (Go.Operand.tmp 136), type := 3, pos := "outright.go:164", after := #[{ on := 27, ground := Go.Ground.data }, { on := 21, ground := Go.Ground.guard }], guard := some (21, false) }) (v := undef) rfl (by kernel_rfl) (by kernel_rfl) (by kernel_rfl) (by kernel_rfl) (fun _ _ _ h => h) (Or.inr ⟨by rfl, rfl⟩) (fun _ => by assumption) ?_
                      try simp only [Act.put, List.setIfInBounds_toArray, List.set_cons_zero, List.set_cons_succ]
                      refine wpAnyZ_takeP (i := 29) (oi := { dst := some 138, op := Go.Op.call { callee := Go.Callee.value (Go.Operand.func 19), args := #[Go.Operand.tmp 131, Go.Operand.tmp 132, Go.Operand.tmp 133, Go.Operand.tmp 137, Go.Operand.const (Go.Value.int Go.IntKind.i64 0)], argTypes := #[29, 3, 3, 3, 3] }, type := 3, pos := "outright.go:164", after := #[{ on := 22, ground := Go.Ground.data }, { on := 23, ground := Go.Ground.data }, { on := 24, ground := Go.Ground.data }, { on := 28, ground := Go.Ground.data }, { on := 21, ground := Go.Ground.chain }, { on := 21, ground := Go.Ground.guard }], guard := some (21, false) }) (v := undef) rfl (by kernel_rfl) (by kernel_rfl) (by kernel_rfl) (by kernel_rfl) (fun _ _ _ h => h) (Or.inr ⟨by rfl, rfl⟩) (fun _ => by assumption) ?_
                      try simp only [Act.put, List.setIfInBounds_toArray, List.set_cons_zero, List.set_cons_succ]
                      refine wpAnyZ_takeP (i := 30) (oi := { dst := some 139, op := Go.Op.binOp Go.BinOp.eql 3 (Go.Operand.tmp 138) (Go.Operand.const (Go.Value.int Go.IntKind.i64 1)) 3, type := 4, pos := "outright.go:164", after := #[{ on := 29, ground := Go.Ground.data }, { on := 21, ground := Go.Ground.guard }], guard := some (21, false) }) (v := undef) rfl (by kernel_rfl) (by kernel_rfl) (by kernel_rfl) (by kernel_rfl) (fun _ _ _ h => h) (Or.inr ⟨by rfl, rfl⟩) (fun _ => by assumption) ?_
                      try simp only [Act.put, List.setIfInBounds_toArray, List.set_cons_zero, List.set_cons_succ]
                      refine wpAnyZ_ready (rs := [31]) (by kernel_rfl) (by simp) ?_
                      refine AllReadyZ.cons (o := { dst := some 140, op := Go.Op.pick (Go.Operand.tmp 130) (Go.Operand.const (Go.Value.bool true)) (Go.Operand.tmp 139), type := 4, pos := "outright.go:164", after := #[{ on := 21, ground := Go.Ground.data }, { on := 30, ground := Go.Ground.data }], guard := none }) rfl (fun K hK => ?_) ?_
                      · go_simp
                        refine hK.out _ _ ?_ (fun hHeld => ?_)
                        · (try dsimp only)
                          (exact hD)
                        clear hK K
                        try simp only [Act.put, List.setIfInBounds_toArray, List.set_cons_zero, List.set_cons_succ]
                        refine wpAnyZ_take (i := 32) (oi := { dst := some 16, op := Go.Op.assign (Go.Operand.tmp 140), type := 4, pos := "outright.go:164", after := #[{ on := 31, ground := Go.Ground.data }, { on := 29, ground := Go.Ground.chain }, { on := 0, ground := Go.Ground.phase }, { on := 1, ground := Go.Ground.phase }, { on := 2, ground := Go.Ground.phase }, { on := 3, ground := Go.Ground.phase }, { on := 4, ground := Go.Ground.phase }, { on := 5, ground := Go.Ground.phase }, { on := 6, ground := Go.Ground.phase }, { on := 7, ground := Go.Ground.phase }, { on := 8, ground := Go.Ground.phase }, { on := 9, ground := Go.Ground.phase }, { on := 10, ground := Go.Ground.phase }, { on := 11, ground := Go.Ground.phase }, { on := 12, ground := Go.Ground.phase }, { on := 13, ground := Go.Ground.phase }, { on := 14, ground := Go.Ground.phase }, { on := 15, ground := Go.Ground.phase }, { on := 16, ground := Go.Ground.phase }, { on := 17, ground := Go.Ground.phase }, { on := 18, ground := Go.Ground.phase }, { on := 19, ground := Go.Ground.phase }, { on := 20, ground := Go.Ground.phase }, { on := 21, ground := Go.Ground.phase }, { on := 22, ground := Go.Ground.phase }, { on := 23, ground := Go.Ground.phase }, { on := 24, ground := Go.Ground.phase }, { on := 25, ground := Go.Ground.phase }, { on := 26, ground := Go.Ground.phase }, { on := 27, ground := Go.Ground.phase }, { on := 28, ground := Go.Ground.phase }, { on := 29, ground := Go.Ground.phase }, { on := 30, ground := Go.Ground.phase }, { on := 31, ground := Go.Ground.phase }], guard := none }) (v := ?_) rfl (by kernel_rfl) (by kernel_rfl) (by kernel_rfl) (by kernel_rfl) (by kernel_rfl) (fun _ _ _ h => h) (Or.inl ⟨by rfl, ?_⟩) (by assumption) ?_
                        rotate_left
                        · intro w hSw; (try dsimp only at hSw); go_simp; all_goals (try with_reducible rfl)
                        try simp only [Act.put, List.setIfInBounds_toArray, List.set_cons_zero, List.set_cons_succ]
                        refine wpAnyZ_done (by kernel_rfl) ?_ _
                        refine NoPanic.normal ?_
                        (try simp only [Exit.then])
                        go_wp2_with fail
                        go_meet
                        case rel => exact ⟨by rw [HRD.out]; rfl, hD⟩
                      exact AllReadyZ.nil
                    exact AllReadyZ.nil
                  | false =>
                    have HRD := hid hrd
                    clear hrd
                    cases hph : ph with
                    | true =>
                      rw [hph] at HBY
                      have HPH := hid hph
                      clear hph
                      refine wp_region_noPanic ?_
                      refine wp_region_Z (S := (fun w' => Aft wr w')) (Z := []) (by kernel_rfl) ?_ (fun hHeld => ?_)
                      · (try dsimp only)
                        (exact hD)
                      refine wpAnyZ_takeP (i := 0) (oi := { dst := some 109, op := Go.Op.move (Go.Operand.tmp 16), type := 4, pos := "outright.go:164", after := #[], guard := none }) (v := ?_) rfl (by kernel_rfl) (by kernel_rfl) (by kernel_rfl) (by kernel_rfl) (fun _ _ _ h => h) (Or.inl ⟨by rfl, ?_⟩) (fun _ => by assumption) ?_
                      rotate_left
                      · intro w hSw; (try dsimp only at hSw); go_simp; all_goals (try with_reducible rfl)
                      try simp only [Act.put, List.setIfInBounds_toArray, List.set_cons_zero, List.set_cons_succ]
                      refine wpAnyZ_takeP (i := 1) (oi := { dst := some 110, op := Go.Op.move (Go.Operand.tmp 109), type := 4, pos := "outright.go:164", after := #[{ on := 0, ground := Go.Ground.data }], guard := none }) (v := ?_) rfl (by kernel_rfl) (by kernel_rfl) (by kernel_rfl) (by kernel_rfl) (fun _ _ _ h => h) (Or.inl ⟨by rfl, ?_⟩) (fun _ => by assumption) ?_
                      rotate_left
                      · intro w hSw; (try dsimp only at hSw); go_simp; all_goals (try with_reducible rfl)
                      try simp only [Act.put, List.setIfInBounds_toArray, List.set_cons_zero, List.set_cons_succ]
                      refine wpAnyZ_takeP (i := 2) (oi := { dst := some 111, op := Go.Op.fieldAddr 29 (Go.Operand.tmp 4) 1, type := 0, pos := "outright.go:164", after := #[{ on := 1, ground := Go.Ground.guard }], guard := some (1, false) }) (v := ?_) rfl (by kernel_rfl) (by kernel_rfl) (by kernel_rfl) (by kernel_rfl) (fun _ _ _ h => h) (Or.inl ⟨by rfl, ?_⟩) (fun _ => by assumption) ?_
                      rotate_left
                      · intro w hSw; (try dsimp only at hSw); go_simp; all_goals (try with_reducible rfl)
                      try simp only [Act.put, List.setIfInBounds_toArray, List.set_cons_zero, List.set_cons_succ]
                      refine wpAnyZ_take (i := 3) (oi := { dst := some 112, op := Go.Op.load 27 (Go.Operand.tmp 111), type := 27, pos := "outright.go:164", after := #[{ on := 2, ground := Go.Ground.data }, { on := 1, ground := Go.Ground.guard }], guard := some (1, false) }) (v := ?_) rfl (by kernel_rfl) (by kernel_rfl) (by kernel_rfl) (by kernel_rfl) (by kernel_rfl) (fun _ _ _ h => h) (Or.inl ⟨by rfl, ?_⟩) (by assumption) ?_
                      rotate_left
                      · intro w hSw; (try dsimp only at hSw); go_simp; all_goals (try with_reducible rfl)
                      try simp only [Act.put, List.setIfInBounds_toArray, List.set_cons_zero, List.set_cons_succ]
                      refine wpAnyZ_takeP (i := 4) (oi := { dst := some 113, op := Go.Op.move (Go.Operand.tmp 1), type := 3, pos := "outright.go:164", after := #[{ on := 1, ground := Go.Ground.guard }], guard := some (1, false) }) (v := ?_) rfl (by kernel_rfl) (by kernel_rfl) (by kernel_rfl) (by kernel_rfl) (fun _ _ _ h => h) (Or.inl ⟨by rfl, ?_⟩) (fun _ => by assumption) ?_
                      rotate_left
                      · intro w hSw; (try dsimp only at hSw); go_simp; all_goals (try with_reducible rfl)
                      try simp only [Act.put, List.setIfInBounds_toArray, List.set_cons_zero, List.set_cons_succ]
                      refine wpAnyZ_takeP (i := 5) (oi := { dst := some 114, op := Go.Op.indexAddr 27 (Go.Operand.tmp 112) (Go.Operand.tmp 113), type := 0, pos := "outright.go:164", after := #[{ on := 3, ground := Go.Ground.data }, { on := 4, ground := Go.Ground.data }, { on := 1, ground := Go.Ground.guard }], guard := some (1, false) }) (v := ?_) rfl (by kernel_rfl) (by kernel_rfl) (by kernel_rfl) (by kernel_rfl) (fun _ _ _ h => h) (Or.inl ⟨by rfl, ?_⟩) (fun _ => by assumption) ?_
                      rotate_left
                      · intro w hSw; (try dsimp only at hSw); go_simp; all_goals (try with_reducible rfl)
                      try simp only [Act.put, List.setIfInBounds_toArray, List.set_cons_zero, List.set_cons_succ]
                      refine wpAnyZ_takeP (i := 6) (oi := { dst := some 115, op := Go.Op.fieldAddr 44 (Go.Operand.tmp 114) 1, type := 0, pos := "outright.go:164", after := #[{ on := 5, ground := Go.Ground.data }, { on := 1, ground := Go.Ground.guard }], guard := some (1, false) }) (v := ?_) rfl (by kernel_rfl) (by kernel_rfl) (by kernel_rfl) (by kernel_rfl) (fun _ _ _ h => h) (Or.inl ⟨by rfl, ?_⟩) (fun _ => by assumption) ?_
                      rotate_left
                      · intro w hSw; (try dsimp only at hSw); go_simp; all_goals (try with_reducible rfl)
                      try simp only [Act.put, List.setIfInBounds_toArray, List.set_cons_zero, List.set_cons_succ]
                      refine wpAnyZ_take (i := 7) (oi := { dst := some 116, op := Go.Op.load 42 (Go.Operand.tmp 115), type := 42, pos := "outright.go:164", after := #[{ on := 6, ground := Go.Ground.data }, { on := 1, ground := Go.Ground.guard }], guard := some (1, false) }) (v := ?_) rfl (by kernel_rfl) (by kernel_rfl) (by kernel_rfl) (by kernel_rfl) (by kernel_rfl) (fun _ _ _ h => h) (Or.inl ⟨by rfl, ?_⟩) (by assumption) ?_
                      rotate_left
                      · intro w hSw; (try dsimp only at hSw); go_simp; all_goals (try with_reducible rfl)
                      try simp only [Act.put, List.setIfInBounds_toArray, List.set_cons_zero, List.set_cons_succ]
                      refine wpAnyZ_takeP (i := 8) (oi := { dst := some 117, op := Go.Op.move (Go.Operand.tmp 19), type := 22, pos := "outright.go:164", after := #[{ on := 1, ground := Go.Ground.guard }], guard := some (1, false) }) (v := ?_) rfl (by kernel_rfl) (by kernel_rfl) (by kernel_rfl) (by kernel_rfl) (fun _ _ _ h => h) (Or.inl ⟨by rfl, ?_⟩) (fun _ => by assumption) ?_
                      rotate_left
                      · intro w hSw; (try dsimp only at hSw); go_simp; all_goals (try with_reducible rfl)
                      try simp only [Act.put, List.setIfInBounds_toArray, List.set_cons_zero, List.set_cons_succ]
                      refine wpAnyZ_takeP (i := 9) (oi := { dst := some 118, op := Go.Op.move (Go.Operand.tmp 21), type := 3, pos := "outright.go:164", after := #[{ on := 1, ground := Go.Ground.guard }], guard := some (1, false) }) (v := ?_) rfl (by kernel_rfl) (by kernel_rfl) (by kernel_rfl) (by kernel_rfl) (fun _ _ _ h => h) (Or.inl ⟨by rfl, ?_⟩) (fun _ => by assumption) ?_
                      rotate_left
                      · intro w hSw; (try dsimp only at hSw); go_simp; all_goals (try with_reducible rfl)
                      try simp only [Act.put, List.setIfInBounds_toArray, List.set_cons_zero, List.set_cons_succ]
                      refine wpAnyZ_takeP (i := 10) (oi := { dst := some 119, op := Go.Op.indexAddr 22 (Go.Operand.tmp 117) (Go.Operand.tmp 118), type := 0, pos := "outright.go:164", after := #[{ on := 8, ground := Go.Ground.data }, { on := 9, ground := Go.Ground.data }, { on := 1, ground := Go.Ground.guard }], guard := some (1, false) }) (v := ?_) rfl (by kernel_rfl) (by kernel_rfl) (by kernel_rfl) (by kernel_rfl) (fun _ _ _ h => h) (Or.inl ⟨by rfl, ?_⟩) (fun _ => by assumption) ?_
                      rotate_left
                      · intro w hSw; (try dsimp only at hSw); go_simp; all_goals (try with_reducible rfl)
                      try simp only [Act.put, List.setIfInBounds_toArray, List.set_cons_zero, List.set_cons_succ]
                      refine wpAnyZ_take (i := 11) (oi := { dst := some 120, op := Go.Op.load 3 (Go.Operand.tmp 119), type := 3, pos := "outright.go:164", after := #[{ on := 10, ground := Go.Ground.data }, { on := 1, ground := Go.Ground.guard }], guard := some (1, false) }) (v := ?_) rfl (by kernel_rfl) (by kernel_rfl) (by kernel_rfl) (by kernel_rfl) (by kernel_rfl) (fun _ _ _ h => h) (Or.inl ⟨by rfl, ?_⟩) (by assumption) ?_
                      rotate_left
                      · intro w hSw; (try dsimp only at hSw); go_simp; all_goals (try with_reducible rfl)
                      try simp only [Act.put, List.setIfInBounds_toArray, List.set_cons_zero, List.set_cons_succ]
                      refine wpAnyZ_takeP (i := 12) (oi := { dst := some 121, op := Go.Op.indexAddr 42 (Go.Operand.tmp 116) (Go.Operand.tmp 120), type := 0, pos := "outright.go:164", after := #[{ on := 7, ground := Go.Ground.data }, { on := 11, ground := Go.Ground.data }, { on := 1, ground := Go.Ground.guard }], guard := some (1, false) }) (v := ?_) rfl (by kernel_rfl) (by kernel_rfl) (by kernel_rfl) (by kernel_rfl) (fun _ _ _ h => h) (Or.inl ⟨by rfl, ?_⟩) (fun _ => by assumption) ?_
                      rotate_left
                      · intro w hSw; (try dsimp only at hSw); go_simp; all_goals (try with_reducible rfl)
                      try simp only [Act.put, List.setIfInBounds_toArray, List.set_cons_zero, List.set_cons_succ]
                      refine wpAnyZ_take (i := 13) (oi := { dst := some 122, op := Go.Op.load 41 (Go.Operand.tmp 121), type := 41, pos := "outright.go:164", after := #[{ on := 12, ground := Go.Ground.data }, { on := 1, ground := Go.Ground.guard }], guard := some (1, false) }) (v := ?_) rfl (by kernel_rfl) (by kernel_rfl) (by kernel_rfl) (by kernel_rfl) (by kernel_rfl) (fun _ _ _ h => h) (Or.inl ⟨by rfl, ?_⟩) (by assumption) ?_
                      rotate_left
                      · intro w hSw; (try dsimp only at hSw); go_simp; all_goals (try with_reducible rfl)
                      try simp only [Act.put, List.setIfInBounds_toArray, List.set_cons_zero, List.set_cons_succ]
                      refine wpAnyZ_takeP (i := 14) (oi := { dst := some 123, op := Go.Op.move (Go.Operand.tmp 2), type := 3, pos := "outright.go:164", after := #[{ on := 1, ground := Go.Ground.guard }], guard := some (1, false) }) (v := ?_) rfl (by kernel_rfl) (by kernel_rfl) (by kernel_rfl) (by kernel_rfl) (fun _ _ _ h => h) (Or.inl ⟨by rfl, ?_⟩) (fun _ => by assumption) ?_
                      rotate_left
                      · intro w hSw; (try dsimp only at hSw); go_simp; all_goals (try with_reducible rfl)
                      try simp only [Act.put, List.setIfInBounds_toArray, List.set_cons_zero, List.set_cons_succ]
                      refine wpAnyZ_takeP (i := 15) (oi := { dst := some 124, op := Go.Op.move (Go.Operand.tmp 17), type := 22, pos := "outright.go:164", after := #[{ on := 1, ground := Go.Ground.guard }], guard := some (1, false) }) (v := ?_) rfl (by kernel_rfl) (by kernel_rfl) (by kernel_rfl) (by kernel_rfl) (fun _ _ _ h => h) (Or.inl ⟨by rfl, ?_⟩) (fun _ => by assumption) ?_
                      rotate_left
                      · intro w hSw; (try dsimp only at hSw); go_simp; all_goals (try with_reducible rfl)
                      try simp only [Act.put, List.setIfInBounds_toArray, List.set_cons_zero, List.set_cons_succ]
                      refine wpAnyZ_takeP (i := 16) (oi := { dst := some 125, op := Go.Op.move (Go.Operand.tmp 18), type := 3, pos := "outright.go:164", after := #[{ on := 1, ground := Go.Ground.guard }], guard := some (1, false) }) (v := ?_) rfl (by kernel_rfl) (by kernel_rfl) (by kernel_rfl) (by kernel_rfl) (fun _ _ _ h => h) (Or.inl ⟨by rfl, ?_⟩) (fun _ => by assumption) ?_
                      rotate_left
                      · intro w hSw; (try dsimp only at hSw); go_simp; all_goals (try with_reducible rfl)
                      try simp only [Act.put, List.setIfInBounds_toArray, List.set_cons_zero, List.set_cons_succ]
                      refine wpAnyZ_takeP (i := 17) (oi := { dst := some 126, op := Go.Op.indexAddr 22 (Go.Operand.tmp 124) (Go.Operand.tmp 125), type := 0, pos := "outright.go:164", after := #[{ on := 15, ground := Go.Ground.data }, { on := 16, ground := Go.Ground.data }, { on := 1, ground := Go.Ground.guard }], guard := some (1, false) }) (v := ?_) rfl (by kernel_rfl) (by kernel_rfl) (by kernel_rfl) (by kernel_rfl) (fun _ _ _ h => h) (Or.inl ⟨by rfl, ?_⟩) (fun _ => by assumption) ?_
                      rotate_left
                      · intro w hSw; (try dsimp only at hSw); go_simp; all_goals (try with_reducible rfl)
                      try simp only [Act.put, List.setIfInBounds_toArray, List.set_cons_zero, List.set_cons_succ]
                      refine wpAnyZ_take (i := 18) (oi := { dst := some 127, op := Go.Op.load 3 (Go.Operand.tmp 126), type := 3, pos := "outright.go:164", after := #[{ on := 17, ground := Go.Ground.data }, { on := 1, ground := Go.Ground.guard }], guard := some (1, false) }) (v := ?_) rfl (by kernel_rfl) (by kernel_rfl) (by kernel_rfl) (by kernel_rfl) (by kernel_rfl) (fun _ _ _ h => h) (Or.inl ⟨by rfl, ?_⟩) (by assumption) ?_
                      rotate_left
                      · intro w hSw; (try dsimp only at hSw); go_simp; all_goals (try with_reducible rfl)
                      try simp only [Act.put, List.setIfInBounds_toArray, List.set_cons_zero, List.set_cons_succ]
                      refine wpAnyZ_ready (rs := [19]) (by kernel_rfl) (by simp) ?_
                      refine AllReadyZ.cons (o := { dst := some 128, op := Go.Op.call { callee := Go.Callee.value (Go.Operand.func 20), args := #[Go.Operand.tmp 122, Go.Operand.tmp 123, Go.Operand.tmp 127], argTypes := #[41, 3, 3] }, type := 4, pos := "outright.go:164", after := #[{ on := 13, ground := Go.Ground.data }, { on := 14, ground := Go.Ground.data }, { on := 18, ground := Go.Ground.data }, { on := 1, ground := Go.Ground.chain }, { on := 1, ground := Go.Ground.guard }], guard := some (1, false) }) rfl (fun K hK => ?_) ?_
                      · go_simp
                        refine (HBY.out _ hD).mono ?_
                        rintro e wq ⟨rfl, hbq⟩
                        refine hK.out _ _ ?_ (fun hHeld => ?_)
                        · (try dsimp only)
                          (exact hD.go hbq)
                        clear hK K
                        try simp only [Act.put, List.setIfInBounds_toArray, List.set_cons_zero, List.set_cons_succ]
                        refine wpAnyZ_ready (rs := [20]) (by kernel_rfl) (by simp) ?_
                        refine AllReadyZ.cons (o := { dst := some 129, op := Go.Op.pick (Go.Operand.tmp 110) (Go.Operand.const (Go.Value.bool true)) (Go.Operand.tmp 128), type := 4, pos := "outright.go:164", after := #[{ on := 1, ground := Go.Ground.data }, { on := 19, ground := Go.Ground.data }], guard := none }) rfl (fun K hK => ?_) ?_
                        · go_simp
                          refine hK.out _ _ ?_ (fun hHeld => ?_)
                          · (try dsimp only)
                            (exact hD.go hbq)
                          clear hK K
                          try simp only [Act.put, List.setIfInBounds_toArray, List.set_cons_zero, List.set_cons_succ]
                          refine wpAnyZ_takeP (i := 21) (oi := { dst := some 130, op := Go.Op.move (Go.Operand.tmp 129), type := 4, pos := "outright.go:164", after := #[{ on := 20, ground := Go.Ground.data }, { on := 19, ground := Go.Ground.chain }], guard := none }) (v := ?_) rfl (by kernel_rfl) (by kernel_rfl) (by kernel_rfl) (by kernel_rfl) (fun _ _ _ h => h) (Or.inl ⟨by rfl, ?_⟩) (fun _ => by assumption) ?_
                          rotate_left
                          · intro w hSw; (try dsimp only at hSw); go_simp; all_goals (try with_reducible rfl)
                          try simp only [Act.put, List.setIfInBounds_toArray, List.set_cons_zero, List.set_cons_succ]
                          refine wpAnyZ_takeP (i := 22) (oi := { dst := some 131, op := Go.Op.load 29 (Go.Operand.tmp 4), type := 29, pos := "outright.go:164", after := #[{ on := 21, ground := Go.Ground.guard }], guard := some (21, false) }) (v := undef) rfl (by kernel_rfl) (by kernel_rfl) (by kernel_rfl) (by kernel_rfl) (fun _ _ _ h => h) (Or.inr ⟨by rfl, rfl⟩) (fun _ => by assumption) ?_
                          try simp only [Act.put, List.setIfInBounds_toArray, List.set_cons_zero, List.set_cons_succ]
                          refine wpAnyZ_takeP (i := 23) (oi := { dst := some 132, op := Go.Op.move (Go.Operand.tmp 1), type := 3, pos := "outright.go:164", after := #[{ on := 21, ground := Go.Ground.guard }], guard := some (21, false) }) (v := undef) rfl (by kernel_rfl) (by kernel_rfl) (by kernel_rfl) (by kernel_rfl) (fun _ _ _ h => h) (Or.inr ⟨by rfl, rfl⟩) (fun _ => by assumption) ?_
                          try simp only [Act.put, List.setIfInBounds_toArray, List.set_cons_zero, List.set_cons_succ]
                          refine wpAnyZ_takeP (i := 24) (oi := { dst := some 133, op := Go.Op.move (Go.Operand.tmp 2), type := 3, pos := "outright.go:164", after := #[{ on := 21, ground := Go.Ground.guard }], guard := some (21, false) }) (v := undef) rfl (by kernel_rfl) (by kernel_rfl) (by kernel_rfl) (by kernel_rfl) (fun _ _ _ h => h) (Or.inr ⟨by rfl, rfl⟩) (fun _ => by assumption) ?_
                          try simp only [Act.put, List.setIfInBounds_toArray, List.set_cons_zero, List.set_cons_succ]
                          refine wpAnyZ_takeP (i := 25) (oi := { dst := some 134, op := Go.Op.move (Go.Operand.tmp 19), type := 22, pos := "outright.go:164", after := #[{ on := 21, ground := Go.Ground.guard }], guard := some (21, false) }) (v := undef) rfl (by kernel_rfl) (by kernel_rfl) (by kernel_rfl) (by kernel_rfl) (fun _ _ _ h => h) (Or.inr ⟨by rfl, rfl⟩) (fun _ => by assumption) ?_
                          try simp only [Act.put, List.setIfInBounds_toArray, List.set_cons_zero, List.set_cons_succ]
                          refine wpAnyZ_takeP (i := 26) (oi := { dst := some 135, op := Go.Op.move (Go.Operand.tmp 21), type := 3, pos := "outright.go:164", after := #[{ on := 21, ground := Go.Ground.guard }], guard := some (21, false) }) (v := undef) rfl (by kernel_rfl) (by kernel_rfl) (by kernel_rfl) (by kernel_rfl) (fun _ _ _ h => h) (Or.inr ⟨by rfl, rfl⟩) (fun _ => by assumption) ?_
                          try simp only [Act.put, List.setIfInBounds_toArray, List.set_cons_zero, List.set_cons_succ]
                          refine wpAnyZ_takeP (i := 27) (oi := { dst := some 136, op := Go.Op.indexAddr 22 (Go.Operand.tmp 134) (Go.Operand.tmp 135), type := 0, pos := "outright.go:164", after := #[{ on := 25, ground := Go.Ground.data }, { on := 26, ground := Go.Ground.data }, { on := 21, ground := Go.Ground.guard }], guard := some (21, false) }) (v := undef) rfl (by kernel_rfl) (by kernel_rfl) (by kernel_rfl) (by kernel_rfl) (fun _ _ _ h => h) (Or.inr ⟨by rfl, rfl⟩) (fun _ => by assumption) ?_
                          try simp only [Act.put, List.setIfInBounds_toArray, List.set_cons_zero, List.set_cons_succ]
                          refine wpAnyZ_takeP (i := 28) (oi := { dst := some 137, op := Go.Op.load 3 (Go.Operand.tmp 136), type := 3, pos := "outright.go:164", after := #[{ on := 27, ground := Go.Ground.data }, { on := 21, ground := Go.Ground.guard }], guard := some (21, false) }) (v := undef) rfl (by kernel_rfl) (by kernel_rfl) (by kernel_rfl) (by kernel_rfl) (fun _ _ _ h => h) (Or.inr ⟨by rfl, rfl⟩) (fun _ => by assumption) ?_
                          try simp only [Act.put, List.setIfInBounds_toArray, List.set_cons_zero, List.set_cons_succ]
                          refine wpAnyZ_takeP (i := 29) (oi := { dst := some 138, op := Go.Op.call { callee := Go.Callee.value (Go.Operand.func 19), args := #[Go.Operand.tmp 131, Go.Operand.tmp 132, Go.Operand.tmp 133, Go.Operand.tmp 137, Go.Operand.const (Go.Value.int Go.IntKind.i64 0)], argTypes := #[29, 3, 3, 3, 3] }, type := 3, pos := "outright.go:164", after := #[{ on := 22, ground := Go.Ground.data }, { on := 23, ground := Go.Ground.data }, { on := 24, ground := Go.Ground.data }, { on := 28, ground := Go.Ground.data }, { on := 21, ground := Go.Ground.chain }, { on := 21, ground := Go.Ground.guard }], guard := some (21, false) }) (v := undef) rfl (by kernel_rfl) (by kernel_rfl) (by kernel_rfl) (by kernel_rfl) (fun _ _ _ h => h) (Or.inr ⟨by rfl, rfl⟩) (fun _ => by assumption) ?_
                          try simp only [Act.put, List.setIfInBounds_toArray, List.set_cons_zero, List.set_cons_succ]
                          refine wpAnyZ_takeP (i := 30) (oi := { dst := some 139, op := Go.Op.binOp Go.BinOp.eql 3 (Go.Operand.tmp 138) (Go.Operand.const (Go.Value.int Go.IntKind.i64 1)) 3, type := 4, pos := "outright.go:164", after := #[{ on := 29, ground := Go.Ground.data }, { on := 21, ground := Go.Ground.guard }], guard := some (21, false) }) (v := undef) rfl (by kernel_rfl) (by kernel_rfl) (by kernel_rfl) (by kernel_rfl) (fun _ _ _ h => h) (Or.inr ⟨by rfl, rfl⟩) (fun _ => by assumption) ?_
                          try simp only [Act.put, List.setIfInBounds_toArray, List.set_cons_zero, List.set_cons_succ]
                          refine wpAnyZ_ready (rs := [31]) (by kernel_rfl) (by simp) ?_
                          refine AllReadyZ.cons (o := { dst := some 140, op := Go.Op.pick (Go.Operand.tmp 130) (Go.Operand.const (Go.Value.bool true)) (Go.Operand.tmp 139), type := 4, pos := "outright.go:164", after := #[{ on := 21, ground := Go.Ground.data }, { on := 30, ground := Go.Ground.data }], guard := none }) rfl (fun K hK => ?_) ?_
                          · go_simp
                            refine hK.out _ _ ?_ (fun hHeld => ?_)
                            · (try dsimp only)
                              (exact hD.go hbq)
                            clear hK K
                            try simp only [Act.put, List.setIfInBounds_toArray, List.set_cons_zero, List.set_cons_succ]
                            refine wpAnyZ_take (i := 32) (oi := { dst := some 16, op := Go.Op.assign (Go.Operand.tmp 140), type := 4, pos := "outright.go:164", after := #[{ on := 31, ground := Go.Ground.data }, { on := 29, ground := Go.Ground.chain }, { on := 0, ground := Go.Ground.phase }, { on := 1, ground := Go.Ground.phase }, { on := 2, ground := Go.Ground.phase }, { on := 3, ground := Go.Ground.phase }, { on := 4, ground := Go.Ground.phase }, { on := 5, ground := Go.Ground.phase }, { on := 6, ground := Go.Ground.phase }, { on := 7, ground := Go.Ground.phase }, { on := 8, ground := Go.Ground.phase }, { on := 9, ground := Go.Ground.phase }, { on := 10, ground := Go.Ground.phase }, { on := 11, ground := Go.Ground.phase }, { on := 12, ground := Go.Ground.phase }, { on := 13, ground := Go.Ground.phase }, { on := 14, ground := Go.Ground.phase }, { on := 15, ground := Go.Ground.phase }, { on := 16, ground := Go.Ground.phase }, { on := 17, ground := Go.Ground.phase }, { on := 18, ground := Go.Ground.phase }, { on := 19, ground := Go.Ground.phase }, { on := 20, ground := Go.Ground.phase }, { on := 21, ground := Go.Ground.phase }, { on := 22, ground := Go.Ground.phase }, { on := 23, ground := Go.Ground.phase }, { on := 24, ground := Go.Ground.phase }, { on := 25, ground := Go.Ground.phase }, { on := 26, ground := Go.Ground.phase }, { on := 27, ground := Go.Ground.phase }, { on := 28, ground := Go.Ground.phase }, { on := 29, ground := Go.Ground.phase }, { on := 30, ground := Go.Ground.phase }, { on := 31, ground := Go.Ground.phase }], guard := none }) (v := ?_) rfl (by kernel_rfl) (by kernel_rfl) (by kernel_rfl) (by kernel_rfl) (by kernel_rfl) (fun _ _ _ h => h) (Or.inl ⟨by rfl, ?_⟩) (by assumption) ?_
                            rotate_left
                            · intro w hSw; (try dsimp only at hSw); go_simp; all_goals (try with_reducible rfl)
                            try simp only [Act.put, List.setIfInBounds_toArray, List.set_cons_zero, List.set_cons_succ]
                            refine wpAnyZ_done (by kernel_rfl) ?_ _
                            refine NoPanic.normal ?_
                            (try simp only [Exit.then])
                            go_wp2_with fail
                            go_meet
                            case rel => exact ⟨by rw [HRD.out, HPH.out]; rfl, hD.go hbq⟩
                          exact AllReadyZ.nil
                        exact AllReadyZ.nil
                      exact AllReadyZ.nil
                    | false =>
                      rw [hph] at HBY
                      have HPH := hid hph
                      clear hph
                      refine wp_region_noPanic ?_
                      refine wp_region_Z (S := (fun w' => Aft wr w')) (Z := []) (by kernel_rfl) ?_ (fun hHeld => ?_)
                      · (try dsimp only)
                        (exact hD)
                      refine wpAnyZ_takeP (i := 0) (oi := { dst := some 109, op := Go.Op.move (Go.Operand.tmp 16), type := 4, pos := "outright.go:164", after := #[], guard := none }) (v := ?_) rfl (by kernel_rfl) (by kernel_rfl) (by kernel_rfl) (by kernel_rfl) (fun _ _ _ h => h) (Or.inl ⟨by rfl, ?_⟩) (fun _ => by assumption) ?_
                      rotate_left
                      · intro w hSw; (try dsimp only at hSw); go_simp; all_goals (try with_reducible rfl)
                      try simp only [Act.put, List.setIfInBounds_toArray, List.set_cons_zero, List.set_cons_succ]
                      refine wpAnyZ_takeP (i := 1) (oi := { dst := some 110, op := Go.Op.move (Go.Operand.tmp 109), type := 4, pos := "outright.go:164", after := #[{ on := 0, ground := Go.Ground.data }], guard := none }) (v := ?_) rfl (by kernel_rfl) (by kernel_rfl) (by kernel_rfl) (by kernel_rfl) (fun _ _ _ h => h) (Or.inl ⟨by rfl, ?_⟩) (fun _ => by assumption) ?_
                      rotate_left
                      · intro w hSw; (try dsimp only at hSw); go_simp; all_goals (try with_reducible rfl)
                      try simp only [Act.put, List.setIfInBounds_toArray, List.set_cons_zero, List.set_cons_succ]
                      refine wpAnyZ_takeP (i := 2) (oi := { dst := some 111, op := Go.Op.fieldAddr 29 (Go.Operand.tmp 4) 1, type := 0, pos := "outright.go:164", after := #[{ on := 1, ground := Go.Ground.guard }], guard := some (1, false) }) (v := ?_) rfl (by kernel_rfl) (by kernel_rfl) (by kernel_rfl) (by kernel_rfl) (fun _ _ _ h => h) (Or.inl ⟨by rfl, ?_⟩) (fun _ => by assumption) ?_
                      rotate_left
                      · intro w hSw; (try dsimp only at hSw); go_simp; all_goals (try with_reducible rfl)
                      try simp only [Act.put, List.setIfInBounds_toArray, List.set_cons_zero, List.set_cons_succ]
                      refine wpAnyZ_take (i := 3) (oi := { dst := some 112, op := Go.Op.load 27 (Go.Operand.tmp 111), type := 27, pos := "outright.go:164", after := #[{ on := 2, ground := Go.Ground.data }, { on := 1, ground := Go.Ground.guard }], guard := some (1, false) }) (v := ?_) rfl (by kernel_rfl) (by kernel_rfl) (by kernel_rfl) (by kernel_rfl) (by kernel_rfl) (fun _ _ _ h => h) (Or.inl ⟨by rfl, ?_⟩) (by assumption) ?_
                      rotate_left
                      · intro w hSw; (try dsimp only at hSw); go_simp; all_goals (try with_reducible rfl)
                      try simp only [Act.put, List.setIfInBounds_toArray, List.set_cons_zero, List.set_cons_succ]
                      refine wpAnyZ_takeP (i := 4) (oi := { dst := some 113, op := Go.Op.move (Go.Operand.tmp 1), type := 3, pos := "outright.go:164", after := #[{ on := 1, ground := Go.Ground.guard }], guard := some (1, false) }) (v := ?_) rfl (by kernel_rfl) (by kernel_rfl) (by kernel_rfl) (by kernel_rfl) (fun _ _ _ h => h) (Or.inl ⟨by rfl, ?_⟩) (fun _ => by assumption) ?_
                      rotate_left
                      · intro w hSw; (try dsimp only at hSw); go_simp; all_goals (try with_reducible rfl)
                      try simp only [Act.put, List.setIfInBounds_toArray, List.set_cons_zero, List.set_cons_succ]
                      refine wpAnyZ_takeP (i := 5) (oi := { dst := some 114, op := Go.Op.indexAddr 27 (Go.Operand.tmp 112) (Go.Operand.tmp 113), type := 0, pos := "outright.go:164", after := #[{ on := 3, ground := Go.Ground.data }, { on := 4, ground := Go.Ground.data }, { on := 1, ground := Go.Ground.guard }], guard := some (1, false) }) (v := ?_) rfl (by kernel_rfl) (by kernel_rfl) (by kernel_rfl) (by kernel_rfl) (fun _ _ _ h => h) (Or.inl ⟨by rfl, ?_⟩) (fun _ => by assumption) ?_
                      rotate_left
                      · intro w hSw; (try dsimp only at hSw); go_simp; all_goals (try with_reducible rfl)
                      try simp only [Act.put, List.setIfInBounds_toArray, List.set_cons_zero, List.set_cons_succ]
                      refine wpAnyZ_takeP (i := 6) (oi := { dst := some 115, op := Go.Op.fieldAddr 44 (Go.Operand.tmp 114) 1, type := 0, pos := "outright.go:164", after := #[{ on := 5, ground := Go.Ground.data }, { on := 1, ground := Go.Ground.guard }], guard := some (1, false) }) (v := ?_) rfl (by kernel_rfl) (by kernel_rfl) (by kernel_rfl) (by kernel_rfl) (fun _ _ _ h => h) (Or.inl ⟨by rfl, ?_⟩) (fun _ => by assumption) ?_
                      rotate_left
                      · intro w hSw; (try dsimp only at hSw); go_simp; all_goals (try with_reducible rfl)
                      try simp only [Act.put, List.setIfInBounds_toArray, List.set_cons_zero, List.set_cons_succ]
                      refine wpAnyZ_take (i := 7) (oi := { dst := some 116, op := Go.Op.load 42 (Go.Operand.tmp 115), type := 42, pos := "outright.go:164", after := #[{ on := 6, ground := Go.Ground.data }, { on := 1, ground := Go.Ground.guard }], guard := some (1, false) }) (v := ?_) rfl (by kernel_rfl) (by kernel_rfl) (by kernel_rfl) (by kernel_rfl) (by kernel_rfl) (fun _ _ _ h => h) (Or.inl ⟨by rfl, ?_⟩) (by assumption) ?_
                      rotate_left
                      · intro w hSw; (try dsimp only at hSw); go_simp; all_goals (try with_reducible rfl)
                      try simp only [Act.put, List.setIfInBounds_toArray, List.set_cons_zero, List.set_cons_succ]
                      refine wpAnyZ_takeP (i := 8) (oi := { dst := some 117, op := Go.Op.move (Go.Operand.tmp 19), type := 22, pos := "outright.go:164", after := #[{ on := 1, ground := Go.Ground.guard }], guard := some (1, false) }) (v := ?_) rfl (by kernel_rfl) (by kernel_rfl) (by kernel_rfl) (by kernel_rfl) (fun _ _ _ h => h) (Or.inl ⟨by rfl, ?_⟩) (fun _ => by assumption) ?_
                      rotate_left
                      · intro w hSw; (try dsimp only at hSw); go_simp; all_goals (try with_reducible rfl)
                      try simp only [Act.put, List.setIfInBounds_toArray, List.set_cons_zero, List.set_cons_succ]
                      refine wpAnyZ_takeP (i := 9) (oi := { dst := some 118, op := Go.Op.move (Go.Operand.tmp 21), type := 3, pos := "outright.go:164", after := #[{ on := 1, ground := Go.Ground.guard }], guard := some (1, false) }) (v := ?_) rfl (by kernel_rfl) (by kernel_rfl) (by kernel_rfl) (by kernel_rfl) (fun _ _ _ h => h) (Or.inl ⟨by rfl, ?_⟩) (fun _ => by assumption) ?_
                      rotate_left
                      · intro w hSw; (try dsimp only at hSw); go_simp; all_goals (try with_reducible rfl)
                      try simp only [Act.put, List.setIfInBounds_toArray, List.set_cons_zero, List.set_cons_succ]
                      refine wpAnyZ_takeP (i := 10) (oi := { dst := some 119, op := Go.Op.indexAddr 22 (Go.Operand.tmp 117) (Go.Operand.tmp 118), type := 0, pos := "outright.go:164", after := #[{ on := 8, ground := Go.Ground.data }, { on := 9, ground := Go.Ground.data }, { on := 1, ground := Go.Ground.guard }], guard := some (1, false) }) (v := ?_) rfl (by kernel_rfl) (by kernel_rfl) (by kernel_rfl) (by kernel_rfl) (fun _ _ _ h => h) (Or.inl ⟨by rfl, ?_⟩) (fun _ => by assumption) ?_
                      rotate_left
                      · intro w hSw; (try dsimp only at hSw); go_simp; all_goals (try with_reducible rfl)
                      try simp only [Act.put, List.setIfInBounds_toArray, List.set_cons_zero, List.set_cons_succ]
                      refine wpAnyZ_take (i := 11) (oi := { dst := some 120, op := Go.Op.load 3 (Go.Operand.tmp 119), type := 3, pos := "outright.go:164", after := #[{ on := 10, ground := Go.Ground.data }, { on := 1, ground := Go.Ground.guard }], guard := some (1, false) }) (v := ?_) rfl (by kernel_rfl) (by kernel_rfl) (by kernel_rfl) (by kernel_rfl) (by kernel_rfl) (fun _ _ _ h => h) (Or.inl ⟨by rfl, ?_⟩) (by assumption) ?_
                      rotate_left
                      · intro w hSw; (try dsimp only at hSw); go_simp; all_goals (try with_reducible rfl)
                      try simp only [Act.put, List.setIfInBounds_toArray, List.set_cons_zero, List.set_cons_succ]
                      refine wpAnyZ_takeP (i := 12) (oi := { dst := some 121, op := Go.Op.indexAddr 42 (Go.Operand.tmp 116) (Go.Operand.tmp 120), type := 0, pos := "outright.go:164", after := #[{ on := 7, ground := Go.Ground.data }, { on := 11, ground := Go.Ground.data }, { on := 1, ground := Go.Ground.guard }], guard := some (1, false) }) (v := ?_) rfl (by kernel_rfl) (by kernel_rfl) (by kernel_rfl) (by kernel_rfl) (fun _ _ _ h => h) (Or.inl ⟨by rfl, ?_⟩) (fun _ => by assumption) ?_
                      rotate_left
                      · intro w hSw; (try dsimp only at hSw); go_simp; all_goals (try with_reducible rfl)
                      try simp only [Act.put, List.setIfInBounds_toArray, List.set_cons_zero, List.set_cons_succ]
                      refine wpAnyZ_take (i := 13) (oi := { dst := some 122, op := Go.Op.load 41 (Go.Operand.tmp 121), type := 41, pos := "outright.go:164", after := #[{ on := 12, ground := Go.Ground.data }, { on := 1, ground := Go.Ground.guard }], guard := some (1, false) }) (v := ?_) rfl (by kernel_rfl) (by kernel_rfl) (by kernel_rfl) (by kernel_rfl) (by kernel_rfl) (fun _ _ _ h => h) (Or.inl ⟨by rfl, ?_⟩) (by assumption) ?_
                      rotate_left
                      · intro w hSw; (try dsimp only at hSw); go_simp; all_goals (try with_reducible rfl)
                      try simp only [Act.put, List.setIfInBounds_toArray, List.set_cons_zero, List.set_cons_succ]
                      refine wpAnyZ_takeP (i := 14) (oi := { dst := some 123, op := Go.Op.move (Go.Operand.tmp 2), type := 3, pos := "outright.go:164", after := #[{ on := 1, ground := Go.Ground.guard }], guard := some (1, false) }) (v := ?_) rfl (by kernel_rfl) (by kernel_rfl) (by kernel_rfl) (by kernel_rfl) (fun _ _ _ h => h) (Or.inl ⟨by rfl, ?_⟩) (fun _ => by assumption) ?_
                      rotate_left
                      · intro w hSw; (try dsimp only at hSw); go_simp; all_goals (try with_reducible rfl)
                      try simp only [Act.put, List.setIfInBounds_toArray, List.set_cons_zero, List.set_cons_succ]
                      refine wpAnyZ_takeP (i := 15) (oi := { dst := some 124, op := Go.Op.move (Go.Operand.tmp 17), type := 22, pos := "outright.go:164", after := #[{ on := 1, ground := Go.Ground.guard }], guard := some (1, false) }) (v := ?_) rfl (by kernel_rfl) (by kernel_rfl) (by kernel_rfl) (by kernel_rfl) (fun _ _ _ h => h) (Or.inl ⟨by rfl, ?_⟩) (fun _ => by assumption) ?_
                      rotate_left
                      · intro w hSw; (try dsimp only at hSw); go_simp; all_goals (try with_reducible rfl)
                      try simp only [Act.put, List.setIfInBounds_toArray, List.set_cons_zero, List.set_cons_succ]
                      refine wpAnyZ_takeP (i := 16) (oi := { dst := some 125, op := Go.Op.move (Go.Operand.tmp 18), type := 3, pos := "outright.go:164", after := #[{ on := 1, ground := Go.Ground.guard }], guard := some (1, false) }) (v := ?_) rfl (by kernel_rfl) (by kernel_rfl) (by kernel_rfl) (by kernel_rfl) (fun _ _ _ h => h) (Or.inl ⟨by rfl, ?_⟩) (fun _ => by assumption) ?_
                      rotate_left
                      · intro w hSw; (try dsimp only at hSw); go_simp; all_goals (try with_reducible rfl)
                      try simp only [Act.put, List.setIfInBounds_toArray, List.set_cons_zero, List.set_cons_succ]
                      refine wpAnyZ_takeP (i := 17) (oi := { dst := some 126, op := Go.Op.indexAddr 22 (Go.Operand.tmp 124) (Go.Operand.tmp 125), type := 0, pos := "outright.go:164", after := #[{ on := 15, ground := Go.Ground.data }, { on := 16, ground := Go.Ground.data }, { on := 1, ground := Go.Ground.guard }], guard := some (1, false) }) (v := ?_) rfl (by kernel_rfl) (by kernel_rfl) (by kernel_rfl) (by kernel_rfl) (fun _ _ _ h => h) (Or.inl ⟨by rfl, ?_⟩) (fun _ => by assumption) ?_
                      rotate_left
                      · intro w hSw; (try dsimp only at hSw); go_simp; all_goals (try with_reducible rfl)
                      try simp only [Act.put, List.setIfInBounds_toArray, List.set_cons_zero, List.set_cons_succ]
                      refine wpAnyZ_take (i := 18) (oi := { dst := some 127, op := Go.Op.load 3 (Go.Operand.tmp 126), type := 3, pos := "outright.go:164", after := #[{ on := 17, ground := Go.Ground.data }, { on := 1, ground := Go.Ground.guard }], guard := some (1, false) }) (v := ?_) rfl (by kernel_rfl) (by kernel_rfl) (by kernel_rfl) (by kernel_rfl) (by kernel_rfl) (fun _ _ _ h => h) (Or.inl ⟨by rfl, ?_⟩) (by assumption) ?_
                      rotate_left
                      · intro w hSw; (try dsimp only at hSw); go_simp; all_goals (try with_reducible rfl)
                      try simp only [Act.put, List.setIfInBounds_toArray, List.set_cons_zero, List.set_cons_succ]
                      refine wpAnyZ_ready (rs := [19]) (by kernel_rfl) (by simp) ?_
                      refine AllReadyZ.cons (o := { dst := some 128, op := Go.Op.call { callee := Go.Callee.value (Go.Operand.func 20), args := #[Go.Operand.tmp 122, Go.Operand.tmp 123, Go.Operand.tmp 127], argTypes := #[41, 3, 3] }, type := 4, pos := "outright.go:164", after := #[{ on := 13, ground := Go.Ground.data }, { on := 14, ground := Go.Ground.data }, { on := 18, ground := Go.Ground.data }, { on := 1, ground := Go.Ground.chain }, { on := 1, ground := Go.Ground.guard }], guard := some (1, false) }) rfl (fun K hK => ?_) ?_
                      · go_simp
                        refine (HBY.out _ hD).mono ?_
                        rintro e wq ⟨rfl, hbq⟩
                        refine hK.out _ _ ?_ (fun hHeld => ?_)
                        · (try dsimp only)
                          (exact hD.go hbq)
                        clear hK K
                        try simp only [Act.put, List.setIfInBounds_toArray, List.set_cons_zero, List.set_cons_succ]
                        refine wpAnyZ_ready (rs := [20]) (by kernel_rfl) (by simp) ?_
                        refine AllReadyZ.cons (o := { dst := some 129, op := Go.Op.pick (Go.Operand.tmp 110) (Go.Operand.const (Go.Value.bool true)) (Go.Operand.tmp 128), type := 4, pos := "outright.go:164", after := #[{ on := 1, ground := Go.Ground.data }, { on := 19, ground := Go.Ground.data }], guard := none }) rfl (fun K hK => ?_) ?_
                        · go_simp
                          refine hK.out _ _ ?_ (fun hHeld => ?_)
                          · (try dsimp only)
                            (exact hD.go hbq)
                          clear hK K
                          try simp only [Act.put, List.setIfInBounds_toArray, List.set_cons_zero, List.set_cons_succ]
                          refine wpAnyZ_takeP (i := 21) (oi := { dst := some 130, op := Go.Op.move (Go.Operand.tmp 129), type := 4, pos := "outright.go:164", after := #[{ on := 20, ground := Go.Ground.data }, { on := 19, ground := Go.Ground.chain }], guard := none }) (v := ?_) rfl (by kernel_rfl) (by kernel_rfl) (by kernel_rfl) (by kernel_rfl) (fun _ _ _ h => h) (Or.inl ⟨by rfl, ?_⟩) (fun _ => by assumption) ?_
                          rotate_left
                          · intro w hSw; (try dsimp only at hSw); go_simp; all_goals (try with_reducible rfl)
                          try simp only [Act.put, List.setIfInBounds_toArray, List.set_cons_zero, List.set_cons_succ]
                          refine wpAnyZ_take (i := 22) (oi := { dst := some 131, op := Go.Op.load 29 (Go.Operand.tmp 4), type := 29, pos := "outright.go:164", after := #[{ on := 21, ground := Go.Ground.guard }], guard := some (21, false) }) (v := ?_) rfl (by kernel_rfl) (by kernel_rfl) (by kernel_rfl) (by kernel_rfl) (by kernel_rfl) (fun _ _ _ h => h) (Or.inl ⟨by rfl, ?_⟩) (by assumption) ?_
                          rotate_left
                          · intro w hSw; (try dsimp only at hSw); go_simp; all_goals (try with_reducible rfl)
                          try simp only [Act.put, List.setIfInBounds_toArray, List.set_cons_zero, List.set_cons_succ]
                          refine wpAnyZ_takeP (i := 23) (oi := { dst := some 132, op := Go.Op.move (Go.Operand.tmp 1), type := 3, pos := "outright.go:164", after := #[{ on := 21, ground := Go.Ground.guard }], guard := some (21, false) }) (v := ?_) rfl (by kernel_rfl) (by kernel_rfl) (by kernel_rfl) (by kernel_rfl) (fun _ _ _ h => h) (Or.inl ⟨by rfl, ?_⟩) (fun _ => by assumption) ?_
                          rotate_left
                          · intro w hSw; (try dsimp only at hSw); go_simp; all_goals (try with_reducible rfl)
                          try simp only [Act.put, List.setIfInBounds_toArray, List.set_cons_zero, List.set_cons_succ]
                          refine wpAnyZ_takeP (i := 24) (oi := { dst := some 133, op := Go.Op.move (Go.Operand.tmp 2), type := 3, pos := "outright.go:164", after := #[{ on := 21, ground := Go.Ground.guard }], guard := some (21, false) }) (v := ?_) rfl (by kernel_rfl) (by kernel_rfl) (by kernel_rfl) (by kernel_rfl) (fun _ _ _ h => h) (Or.inl ⟨by rfl, ?_⟩) (fun _ => by assumption) ?_
                          rotate_left
                          · intro w hSw; (try dsimp only at hSw); go_simp; all_goals (try with_reducible rfl)
                          try simp only [Act.put, List.setIfInBounds_toArray, List.set_cons_zero, List.set_cons_succ]
                          refine wpAnyZ_takeP (i := 25) (oi := { dst := some 134, op := Go.Op.move (Go.Operand.tmp 19), type := 22, pos := "outright.go:164", after := #[{ on := 21, ground := Go.Ground.guard }], guard := some (21, false) }) (v := ?_) rfl (by kernel_rfl) (by kernel_rfl) (by kernel_rfl) (by kernel_rfl) (fun _ _ _ h => h) (Or.inl ⟨by rfl, ?_⟩) (fun _ => by assumption) ?_
                          rotate_left
                          · intro w hSw; (try dsimp only at hSw); go_simp; all_goals (try with_reducible rfl)
                          try simp only [Act.put, List.setIfInBounds_toArray, List.set_cons_zero, List.set_cons_succ]
                          refine wpAnyZ_takeP (i := 26) (oi := { dst := some 135, op := Go.Op.move (Go.Operand.tmp 21), type := 3, pos := "outright.go:164", after := #[{ on := 21, ground := Go.Ground.guard }], guard := some (21, false) }) (v := ?_) rfl (by kernel_rfl) (by kernel_rfl) (by kernel_rfl) (by kernel_rfl) (fun _ _ _ h => h) (Or.inl ⟨by rfl, ?_⟩) (fun _ => by assumption) ?_
                          rotate_left
                          · intro w hSw; (try dsimp only at hSw); go_simp; all_goals (try with_reducible rfl)
                          try simp only [Act.put, List.setIfInBounds_toArray, List.set_cons_zero, List.set_cons_succ]
                          refine wpAnyZ_takeP (i := 27) (oi := { dst := some 136, op := Go.Op.indexAddr 22 (Go.Operand.tmp 134) (Go.Operand.tmp 135), type := 0, pos := "outright.go:164", after := #[{ on := 25, ground := Go.Ground.data }, { on := 26, ground := Go.Ground.data }, { on := 21, ground := Go.Ground.guard }], guard := some (21, false) }) (v := ?_) rfl (by kernel_rfl) (by kernel_rfl) (by kernel_rfl) (by kernel_rfl) (fun _ _ _ h => h) (Or.inl ⟨by rfl, ?_⟩) (fun _ => by assumption) ?_
                          rotate_left
                          · intro w hSw; (try dsimp only at hSw); go_simp; all_goals (try with_reducible rfl)
                          try simp only [Act.put, List.setIfInBounds_toArray, List.set_cons_zero, List.set_cons_succ]
                          refine wpAnyZ_take (i := 28) (oi := { dst := some 137, op := Go.Op.load 3 (Go.Operand.tmp 136), type := 3, pos := "outright.go:164", after := #[{ on := 27, ground := Go.Ground.data }, { on := 21, ground := Go.Ground.guard }], guard := some (21, false) }) (v := ?_) rfl (by kernel_rfl) (by kernel_rfl) (by kernel_rfl) (by kernel_rfl) (by kernel_rfl) (fun _ _ _ h => h) (Or.inl ⟨by rfl, ?_⟩) (by assumption) ?_
                          rotate_left
                          · intro w hSw; (try dsimp only at hSw); go_simp; all_goals (try with_reducible rfl)
                          try simp only [Act.put, List.setIfInBounds_toArray, List.set_cons_zero, List.set_cons_succ]
                          refine wpAnyZ_ready (rs := [29]) (by kernel_rfl) (by simp) ?_
                          refine AllReadyZ.cons (o := { dst := some 138, op := Go.Op.call { callee := Go.Callee.value (Go.Operand.func 19), args := #[Go.Operand.tmp 131, Go.Operand.tmp 132, Go.Operand.tmp 133, Go.Operand.tmp 137, Go.Operand.const (Go.Value.int Go.IntKind.i64 0)], argTypes := #[29, 3, 3, 3, 3] }, type := 3, pos := "outright.go:164", after := #[{ on := 22, ground := Go.Ground.data }, { on := 23, ground := Go.Ground.data }, { on := 24, ground := Go.Ground.data }, { on := 28, ground := Go.Ground.data }, { on := 21, ground := Go.Ground.chain }, { on := 21, ground := Go.Ground.guard }], guard := some (21, false) }) rfl (fun K hK => ?_) ?_
                          · go_simp
                            refine (HWC2.out _ (hD.go hbq)).mono ?_
                            rintro e wp ⟨rfl, hbp⟩
                            refine hK.out _ _ ?_ (fun hHeld => ?_)
                            · (try dsimp only)
                              (exact (hD.go hbq).go hbp)
                            clear hK K
                            try simp only [Act.put, List.setIfInBounds_toArray, List.set_cons_zero, List.set_cons_succ]
                            refine wpAnyZ_takeP (i := 30) (oi := { dst := some 139, op := Go.Op.binOp Go.BinOp.eql 3 (Go.Operand.tmp 138) (Go.Operand.const (Go.Value.int Go.IntKind.i64 1)) 3, type := 4, pos := "outright.go:164", after := #[{ on := 29, ground := Go.Ground.data }, { on := 21, ground := Go.Ground.guard }], guard := some (21, false) }) (v := ?_) rfl (by kernel_rfl) (by kernel_rfl) (by kernel_rfl) (by kernel_rfl) (fun _ _ _ h => h) (Or.inl ⟨by rfl, ?_⟩) (fun _ => by assumption) ?_
                            rotate_left
                            · intro w hSw; (try dsimp only at hSw); go_simp; all_goals (try with_reducible rfl)
                            try simp only [Act.put, List.setIfInBounds_toArray, List.set_cons_zero, List.set_cons_succ]
                            refine wpAnyZ_ready (rs := [31]) (by kernel_rfl) (by simp) ?_
                            refine AllReadyZ.cons (o := { dst := some 140, op := Go.Op.pick (Go.Operand.tmp 130) (Go.Operand.const (Go.Value.bool true)) (Go.Operand.tmp 139), type := 4, pos := "outright.go:164", after := #[{ on := 21, ground := Go.Ground.data }, { on := 30, ground := Go.Ground.data }], guard := none }) rfl (fun K hK => ?_) ?_
                            · go_simp
                              refine hK.out _ _ ?_ (fun hHeld => ?_)
                              · (try dsimp only)
                                (exact (hD.go hbq).go hbp)
                              clear hK K
                              try simp only [Act.put, List.setIfInBounds_toArray, List.set_cons_zero, List.set_cons_succ]
                              refine wpAnyZ_take (i := 32) (oi := { dst := some 16, op := Go.Op.assign (Go.Operand.tmp 140), type := 4, pos := "outright.go:164", after := #[{ on := 31, ground := Go.Ground.data }, { on := 29, ground := Go.Ground.chain }, { on := 0, ground := Go.Ground.phase }, { on := 1, ground := Go.Ground.phase }, { on := 2, ground := Go.Ground.phase }, { on := 3, ground := Go.Ground.phase }, { on := 4, ground := Go.Ground.phase }, { on := 5, ground := Go.Ground.phase }, { on := 6, ground := Go.Ground.phase }, { on := 7, ground := Go.Ground.phase }, { on := 8, ground := Go.Ground.phase }, { on := 9, ground := Go.Ground.phase }, { on := 10, ground := Go.Ground.phase }, { on := 11, ground := Go.Ground.phase }, { on := 12, ground := Go.Ground.phase }, { on := 13, ground := Go.Ground.phase }, { on := 14, ground := Go.Ground.phase }, { on := 15, ground := Go.Ground.phase }, { on := 16, ground := Go.Ground.phase }, { on := 17, ground := Go.Ground.phase }, { on := 18, ground := Go.Ground.phase }, { on := 19, ground := Go.Ground.phase }, { on := 20, ground := Go.Ground.phase }, { on := 21, ground := Go.Ground.phase }, { on := 22, ground := Go.Ground.phase }, { on := 23, ground := Go.Ground.phase }, { on := 24, ground := Go.Ground.phase }, { on := 25, ground := Go.Ground.phase }, { on := 26, ground := Go.Ground.phase }, { on := 27, ground := Go.Ground.phase }, { on := 28, ground := Go.Ground.phase }, { on := 29, ground := Go.Ground.phase }, { on := 30, ground := Go.Ground.phase }, { on := 31, ground := Go.Ground.phase }], guard := none }) (v := ?_) rfl (by kernel_rfl) (by kernel_rfl) (by kernel_rfl) (by kernel_rfl) (by kernel_rfl) (fun _ _ _ h => h) (Or.inl ⟨by rfl, ?_⟩) (by assumption) ?_
                              rotate_left
                              · intro w hSw; (try dsimp only at hSw); go_simp; all_goals (try with_reducible rfl)
                              try simp only [Act.put, List.setIfInBounds_toArray, List.set_cons_zero, List.set_cons_succ]
                              refine wpAnyZ_done (by kernel_rfl) ?_ _
                              refine NoPanic.normal ?_
                              (try simp only [Exit.then])
                              go_wp2_with fail
                              go_meet
                              case rel => exact ⟨by rw [HW1.out, HRD.out, HPH.out]; rfl, (hD.go hbq).go hbp⟩
                            exact AllReadyZ.nil
                          exact AllReadyZ.nil
                        exact AllReadyZ.nil
                      exact AllReadyZ.nil
                case rest =>
                obtain ⟨rfl, hc1⟩ := hcut
                have HOW1 := hid (ownsRow_below HOWN.out hc1.below)
                have HLI1 := hid (HLI.out.below hc1.below)
                have HAP1 := hid (HAP2.out.below hc1.below.size)
                have HBE1 := hid (HBE2.out.trans (hc1.below.mono HBE2.out.size))
                have hD1 := hc1.drew
                obtain ⟨w11, rfl⟩ : ∃ w11 : World, w11 = wc := ⟨_, rfl⟩
                clear HOWN HLI HAP2 HBE2 HBY HW1 hD y0 y1 y2 y3 y4 q2
                generalize (rd || (ph || decide (wv = some true))) = rd3 at *
                go_upto_region 21 with fail
                go_cut [158] from 103 to 165 (fun tv wd => tv = .bool (decide (wv = none) && !decide (c ∈ s)) ∧ Aft w11 wd)
                case first =>
                  have hb0 := (Aft.refl w11).drew
                  rcases wv with _ | _ | _
                  · have en0 : winV none = 0 := rfl
                    rw [en0] at HWC2
                    refine wp_region_noPanic ?_
                    refine wp_region_Z (S := (fun w' => Aft wr w')) (Z := []) (by kernel_rfl) ?_ (fun hHeld => ?_)
                    · (try dsimp only)
                      (exact hD1)
                    refine wpAnyZ_take (i := 0) (oi := { dst := some 141, op := Go.Op.load 29 (Go.Operand.tmp 4), type := 29, pos := "outright.go:165", after := #[], guard := none }) (v := ?_) rfl (by kernel_rfl) (by kernel_rfl) (by kernel_rfl) (by kernel_rfl) (by kernel_rfl) (fun _ _ _ h => h) (Or.inl ⟨by rfl, ?_⟩) (by assumption) ?_
                    rotate_left
                    · intro w hSw; (try dsimp only at hSw); go_simp; all_goals (try with_reducible rfl)
                    try simp only [Act.put, List.setIfInBounds_toArray, List.set_cons_zero, List.set_cons_succ]
                    refine wpAnyZ_takeP (i := 1) (oi := { dst := some 142, op := Go.Op.move (Go.Operand.tmp 1), type := 3, pos := "outright.go:165", after := #[], guard := none }) (v := ?_) rfl (by kernel_rfl) (by kernel_rfl) (by kernel_rfl) (by kernel_rfl) (fun _ _ _ h => h) (Or.inl ⟨by rfl, ?_⟩) (fun _ => by assumption) ?_
                    rotate_left
                    · intro w hSw; (try dsimp only at hSw); go_simp; all_goals (try with_reducible rfl)
                    try simp only [Act.put, List.setIfInBounds_toArray, List.set_cons_zero, List.set_cons_succ]
                    refine wpAnyZ_takeP (i := 2) (oi := { dst := some 143, op := Go.Op.move (Go.Operand.tmp 2), type := 3, pos := "outright.go:165", after := #[], guard := none }) (v := ?_) rfl (by kernel_rfl) (by kernel_rfl) (by kernel_rfl) (by kernel_rfl) (fun _ _ _ h => h) (Or.inl ⟨by rfl, ?_⟩) (fun _ => by assumption) ?_
                    rotate_left
                    · intro w hSw; (try dsimp only at hSw); go_simp; all_goals (try with_reducible rfl)
                    try simp only [Act.put, List.setIfInBounds_toArray, List.set_cons_zero, List.set_cons_succ]
                    refine wpAnyZ_takeP (i := 3) (oi := { dst := some 144, op := Go.Op.move (Go.Operand.tmp 19), type := 22, pos := "outright.go:165", after := #[], guard := none }) (v := ?_) rfl (by kernel_rfl) (by kernel_rfl) (by kernel_rfl) (by kernel_rfl) (fun _ _ _ h => h) (Or.inl ⟨by rfl, ?_⟩) (fun _ => by assumption) ?_
                    rotate_left
                    · intro w hSw; (try dsimp only at hSw); go_simp; all_goals (try with_reducible rfl)
                    try simp only [Act.put, List.setIfInBounds_toArray, List.set_cons_zero, List.set_cons_succ]
                    refine wpAnyZ_takeP (i := 4) (oi := { dst := some 145, op := Go.Op.move (Go.Operand.tmp 21), type := 3, pos := "outright.go:165", after := #[], guard := none }) (v := ?_) rfl (by kernel_rfl) (by kernel_rfl) (by kernel_rfl) (by kernel_rfl) (fun _ _ _ h => h) (Or.inl ⟨by rfl, ?_⟩) (fun _ => by assumption) ?_
                    rotate_left
                    · intro w hSw; (try dsimp only at hSw); go_simp; all_goals (try with_reducible rfl)
                    try simp only [Act.put, List.setIfInBounds_toArray, List.set_cons_zero, List.set_cons_succ]
                    refine wpAnyZ_takeP (i := 5) (oi := { dst := some 146, op := Go.Op.indexAddr 22 (Go.Operand.tmp 144) (Go.Operand.tmp 145), type := 0, pos := "outright.go:165", after := #[{ on := 3, ground := Go.Ground.data }, { on := 4, ground := Go.Ground.data }], guard := none }) (v := ?_) rfl (by kernel_rfl) (by kernel_rfl) (by kernel_rfl) (by kernel_rfl) (fun _ _ _ h => h) (Or.inl ⟨by rfl, ?_⟩) (fun _ => by assumption) ?_
                    rotate_left
                    · intro w hSw; (try dsimp only at hSw); go_simp; all_goals (try with_reducible rfl)
                    try simp only [Act.put, List.setIfInBounds_toArray, List.set_cons_zero, List.set_cons_succ]
                    refine wpAnyZ_take (i := 6) (oi := { dst := some 147, op := Go.Op.load 3 (Go.Operand.tmp 146), type := 3, pos := "outright.go:165", after := #[{ on := 5, ground := Go.Ground.data }], guard := none }) (v := ?_) rfl (by kernel_rfl) (by kernel_rfl) (by kernel_rfl) (by kernel_rfl) (by kernel_rfl) (fun _ _ _ h => h) (Or.inl ⟨by rfl, ?_⟩) (by assumption) ?_
                    rotate_left
                    · intro w hSw; (try dsimp only at hSw); go_simp; all_goals (try with_reducible rfl)
                    try simp only [Act.put, List.setIfInBounds_toArray, List.set_cons_zero, List.set_cons_succ]
                    refine wpAnyZ_ready (rs := [7]) (by kernel_rfl) (by simp) ?_
                    refine AllReadyZ.cons (o := { dst := some 148, op := Go.Op.call { callee := Go.Callee.value (Go.Operand.func 19), args := #[Go.Operand.tmp 141, Go.Operand.tmp 142, Go.Operand.tmp 143, Go.Operand.tmp 147, Go.Operand.const (Go.Value.int Go.IntKind.i64 0)], argTypes := #[29, 3, 3, 3, 3] }, type := 3, pos := "outright.go:165", after := #[{ on := 0, ground := Go.Ground.data }, { on := 1, ground := Go.Ground.data }, { on := 2, ground := Go.Ground.data }, { on := 6, ground := Go.Ground.data }], guard := none }) rfl (fun K hK => ?_) ?_
                    · go_simp
                      refine (HWC2.out _ hD1).mono ?_
                      rintro e wq ⟨rfl, hbq⟩
                      refine hK.out _ _ ?_ (fun hHeld => ?_)
                      · (try dsimp only)
                        (exact hD1.go hbq)
                      clear hK K
                      try simp only [Act.put, List.setIfInBounds_toArray, List.set_cons_zero, List.set_cons_succ]
                      refine wpAnyZ_takeP (i := 8) (oi := { dst := some 149, op := Go.Op.binOp Go.BinOp.eql 3 (Go.Operand.tmp 148) (Go.Operand.const (Go.Value.int Go.IntKind.i64 0)) 3, type := 4, pos := "outright.go:165", after := #[{ on := 7, ground := Go.Ground.data }], guard := none }) (v := ?_) rfl (by kernel_rfl) (by kernel_rfl) (by kernel_rfl) (by kernel_rfl) (fun _ _ _ h => h) (Or.inl ⟨by rfl, ?_⟩) (fun _ => by assumption) ?_
                      rotate_left
                      · intro w hSw; (try dsimp only at hSw); go_simp; all_goals (try with_reducible rfl)
                      try simp only [Act.put, List.setIfInBounds_toArray, List.set_cons_zero, List.set_cons_succ]
                      refine wpAnyZ_takeP (i := 9) (oi := { dst := some 150, op := Go.Op.move (Go.Operand.tmp 149), type := 4, pos := "outright.go:165", after := #[{ on := 8, ground := Go.Ground.data }, { on := 7, ground := Go.Ground.chain }], guard := none }) (v := ?_) rfl (by kernel_rfl) (by kernel_rfl) (by kernel_rfl) (by kernel_rfl) (fun _ _ _ h => h) (Or.inl ⟨by rfl, ?_⟩) (fun _ => by assumption) ?_
                      rotate_left
                      · intro w hSw; (try dsimp only at hSw); go_simp; all_goals (try with_reducible rfl)
                      try simp only [Act.put, List.setIfInBounds_toArray, List.set_cons_zero, List.set_cons_succ]
                      refine wpAnyZ_takeP (i := 10) (oi := { dst := some 151, op := Go.Op.move (Go.Operand.tmp 17), type := 22, pos := "outright.go:165", after := #[{ on := 9, ground := Go.Ground.guard }], guard := some (9, true) }) (v := ?_) rfl (by kernel_rfl) (by kernel_rfl) (by kernel_rfl) (by kernel_rfl) (fun _ _ _ h => h) (Or.inl ⟨by rfl, ?_⟩) (fun _ => by assumption) ?_
                      rotate_left
                      · intro w hSw; (try dsimp only at hSw); go_simp; all_goals (try with_reducible rfl)
                      try simp only [Act.put, List.setIfInBounds_toArray, List.set_cons_zero, List.set_cons_succ]
                      refine wpAnyZ_takeP (i := 11) (oi := { dst := some 152, op := Go.Op.move (Go.Operand.tmp 19), type := 22, pos := "outright.go:165", after := #[{ on := 9, ground := Go.Ground.guard }], guard := some (9, true) }) (v := ?_) rfl (by kernel_rfl) (by kernel_rfl) (by kernel_rfl) (by kernel_rfl) (fun _ _ _ h => h) (Or.inl ⟨by rfl, ?_⟩) (fun _ => by assumption) ?_
                      rotate_left
                      · intro w hSw; (try dsimp only at hSw); go_simp; all_goals (try with_reducible rfl)
                      try simp only [Act.put, List.setIfInBounds_toArray, List.set_cons_zero, List.set_cons_succ]
                      refine wpAnyZ_takeP (i := 12) (oi := { dst := some 153, op := Go.Op.move (Go.Operand.tmp 21), type := 3, pos := "outright.go:165", after := #[{ on := 9, ground := Go.Ground.guard }], guard := some (9, true) }) (v := ?_) rfl (by kernel_rfl) (by kernel_rfl) (by kernel_rfl) (by kernel_rfl) (fun _ _ _ h => h) (Or.inl ⟨by rfl, ?_⟩) (fun _ => by assumption) ?_
                      rotate_left
                      · intro w hSw; (try dsimp only at hSw); go_simp; all_goals (try with_reducible rfl)
                      try simp only [Act.put, List.setIfInBounds_toArray, List.set_cons_zero, List.set_cons_succ]
                      refine wpAnyZ_takeP (i := 13) (oi := { dst := some 154, op := Go.Op.indexAddr 22 (Go.Operand.tmp 152) (Go.Operand.tmp 153), type := 0, pos := "outright.go:165", after := #[{ on := 11, ground := Go.Ground.data }, { on := 12, ground := Go.Ground.data }, { on := 9, ground := Go.Ground.guard }], guard := some (9, true) }) (v := ?_) rfl (by kernel_rfl) (by kernel_rfl) (by kernel_rfl) (by kernel_rfl) (fun _ _ _ h => h) (Or.inl ⟨by rfl, ?_⟩) (fun _ => by assumption) ?_
                      rotate_left
                      · intro w hSw; (try dsimp only at hSw); go_simp; all_goals (try with_reducible rfl)
                      try simp only [Act.put, List.setIfInBounds_toArray, List.set_cons_zero, List.set_cons_succ]
                      refine wpAnyZ_take (i := 14) (oi := { dst := some 155, op := Go.Op.load 3 (Go.Operand.tmp 154), type := 3, pos := "outright.go:165", after := #[{ on := 13, ground := Go.Ground.data }, { on := 9, ground := Go.Ground.guard }], guard := some (9, true) }) (v := ?_) rfl (by kernel_rfl) (by kernel_rfl) (by kernel_rfl) (by kernel_rfl) (by kernel_rfl) (fun _ _ _ h => h) (Or.inl ⟨by rfl, ?_⟩) (by assumption) ?_
                      rotate_left
                      · intro w hSw; (try dsimp only at hSw); go_simp; all_goals (try with_reducible rfl)
                      try simp only [Act.put, List.setIfInBounds_toArray, List.set_cons_zero, List.set_cons_succ]
                      refine wpAnyZ_ready (rs := [15]) (by kernel_rfl) (by simp) ?_
                      refine AllReadyZ.cons (o := { dst := some 156, op := Go.Op.call { callee := Go.Callee.value (Go.Operand.func 17), args := #[Go.Operand.tmp 151, Go.Operand.tmp 155], argTypes := #[22, 3] }, type := 4, pos := "outright.go:165", after := #[{ on := 10, ground := Go.Ground.data }, { on := 14, ground := Go.Ground.data }, { on := 9, ground := Go.Ground.chain }, { on := 9, ground := Go.Ground.guard }], guard := some (9, true) }) rfl (fun K hK => ?_) ?_
                      · go_simp
                        refine (HAM.out _ (hD1.go hbq)).mono ?_
                        rintro e wp ⟨rfl, hwp⟩
                        cases hwp
                        refine hK.out _ _ ?_ (fun hHeld => ?_)
                        · (try dsimp only)
                          (exact hD1.go hbq)
                        clear hK K
                        try simp only [Act.put, List.setIfInBounds_toArray, List.set_cons_zero, List.set_cons_succ]
                        refine wpAnyZ_ready (rs := [16]) (by kernel_rfl) (by simp) ?_
                        refine AllReadyZ.cons (o := { dst := some 157, op := Go.Op.unOp Go.UnOp.not 4 (Go.Operand.tmp 156), type := 4, pos := "outright.go:165", after := #[{ on := 15, ground := Go.Ground.data }, { on := 9, ground := Go.Ground.guard }], guard := some (9, true) }) rfl (fun K hK => ?_) ?_
                        · go_simp
                          refine hK.out _ _ ?_ (fun hHeld => ?_)
                          · (try dsimp only)
                            (exact hD1.go hbq)
                          clear hK K
                          try simp only [Act.put, List.setIfInBounds_toArray, List.set_cons_zero, List.set_cons_succ]
                          refine wpAnyZ_ready (rs := [17]) (by kernel_rfl) (by simp) ?_
                          refine AllReadyZ.cons (o := { dst := some 158, op := Go.Op.pick (Go.Operand.tmp 150) (Go.Operand.tmp 157) (Go.Operand.const (Go.Value.bool false)), type := 4, pos := "outright.go:165", after := #[{ on := 9, ground := Go.Ground.data }, { on := 16, ground := Go.Ground.data }], guard := none }) rfl (fun K hK => ?_) ?_
                          · go_simp
                            refine hK.out _ _ ?_ (fun hHeld => ?_)
                            · (try dsimp only)
                              (exact hD1.go hbq)
                            clear hK K
                            try simp only [Act.put, List.setIfInBounds_toArray, List.set_cons_zero, List.set_cons_succ]
                            refine wpAnyZ_done (by kernel_rfl) ?_ _
                            refine NoPanic.normal ?_
                            (try simp only [Exit.then])
                            go_wp2_with fail
                            go_meet
                            case rel => exact ⟨rfl, hb0.go hbq⟩
                          exact AllReadyZ.nil
                        exact AllReadyZ.nil
                      exact AllReadyZ.nil
                    exact AllReadyZ.nil
                  · have en0 : winV (some false) = -1 := rfl
                    rw [en0] at HWC2
                    refine wp_region_noPanic ?_
                    refine wp_region_Z (S := (fun w' => Aft wr w')) (Z := []) (by kernel_rfl) ?_ (fun hHeld => ?_)
                    · (try dsimp only)
                      (exact hD1)
                    refine wpAnyZ_take (i := 0) (oi := { dst := some 141, op := Go.Op.load 29 (Go.Operand.tmp 4), type := 29, pos := "outright.go:165", after := #[], guard := none }) (v := ?_) rfl (by kernel_rfl) (by kernel_rfl) (by kernel_rfl) (by kernel_rfl) (by kernel_rfl) (fun _ _ _ h => h) (Or.inl ⟨by rfl, ?_⟩) (by assumption) ?_
                    rotate_left
                    · intro w hSw; (try dsimp only at hSw); go_simp; all_goals (try with_reducible rfl)
                    try simp only [Act.put, List.setIfInBounds_toArray, List.set_cons_zero, List.set_cons_succ]
                    refine wpAnyZ_takeP (i := 1) (oi := { dst := some 142, op := Go.Op.move (Go.Operand.tmp 1), type := 3, pos := "outright.go:165", after := #[], guard := none }) (v := ?_) rfl (by kernel_rfl) (by kernel_rfl) (by kernel_rfl) (by kernel_rfl) (fun _ _ _ h => h) (Or.inl ⟨by rfl, ?_⟩) (fun _ => by assumption) ?_
                    rotate_left
                    · intro w hSw; (try dsimp only at hSw); go_simp; all_goals (try with_reducible rfl)
                    try simp only [Act.put, List.setIfInBounds_toArray, List.set_cons_zero, List.set_cons_succ]
                    refine wpAnyZ_takeP (i := 2) (oi := { dst := some 143, op := Go.Op.move (Go.Operand.tmp 2), type := 3, pos := "outright.go:165", after := #[], guard := none }) (v := ?_) rfl (by kernel_rfl) (by kernel_rfl) (by kernel_rfl) (by kernel_rfl) (fun _ _ _ h => h) (Or.inl ⟨by rfl, ?_⟩) (fun _ => by assumption) ?_
                    rotate_left
                    · intro w hSw; (try dsimp only at hSw); go_simp; all_goals (try with_reducible rfl)
                    try simp only [Act.put, List.setIfInBounds_toArray, List.set_cons_zero, List.set_cons_succ]
                    refine wpAnyZ_takeP (i := 3) (oi := { dst := some 144, op := Go.Op.move (Go.Operand.tmp 19), type := 22, pos := "outright.go:165", after := #[], guard := none }) (v := ?_) rfl (by kernel_rfl) (by kernel_rfl) (by kernel_rfl) (by kernel_rfl) (fun _ _ _ h => h) (Or.inl ⟨by rfl, ?_⟩) (fun _ => by assumption) ?_
                    rotate_left
                    · intro w hSw; (try dsimp only at hSw); go_simp; all_goals (try with_reducible rfl)
                    try simp only [Act.put, List.setIfInBounds_toArray, List.set_cons_zero, List.set_cons_succ]
                    refine wpAnyZ_takeP (i := 4) (oi := { dst := some 145, op := Go.Op.move (Go.Operand.tmp 21), type := 3, pos := "outright.go:165", after := #[], guard := none }) (v := ?_) rfl (by kernel_rfl) (by kernel_rfl) (by kernel_rfl) (by kernel_rfl) (fun _ _ _ h => h) (Or.inl ⟨by rfl, ?_⟩) (fun _ => by assumption) ?_
                    rotate_left
                    · intro w hSw; (try dsimp only at hSw); go_simp; all_goals (try with_reducible rfl)
                    try simp only [Act.put, List.setIfInBounds_toArray, List.set_cons_zero, List.set_cons_succ]
                    refine wpAnyZ_takeP (i := 5) (oi := { dst := some 146, op := Go.Op.indexAddr 22 (Go.Operand.tmp 144) (Go.Operand.tmp 145), type := 0, pos := "outright.go:165", after := #[{ on := 3, ground := Go.Ground.data }, { on := 4, ground := Go.Ground.data }], guard := none }) (v := ?_) rfl (by kernel_rfl) (by kernel_rfl) (by kernel_rfl) (by kernel_rfl) (fun _ _ _ h => h) (Or.inl ⟨by rfl, ?_⟩) (fun _ => by assumption) ?_
                    rotate_left
                    · intro w hSw; (try dsimp only at hSw); go_simp; all_goals (try with_reducible rfl)
                    try simp only [Act.put, List.setIfInBounds_toArray, List.set_cons_zero, List.set_cons_succ]
                    refine wpAnyZ_take (i := 6) (oi := { dst := some 147, op := Go.Op.load 3 (Go.Operand.tmp 146), type := 3, pos := "outright.go:165", after := #[{ on := 5, ground := Go.Ground.data }], guard := none }) (v := ?_) rfl (by kernel_rfl) (by kernel_rfl) (by kernel_rfl) (by kernel_rfl) (by kernel_rfl) (fun _ _ _ h => h) (Or.inl ⟨by rfl, ?_⟩) (by assumption) ?_
                    rotate_left
                    · intro w hSw; (try dsimp only at hSw); go_simp; all_goals (try with_reducible rfl)
                    try simp only [Act.put, List.setIfInBounds_toArray, List.set_cons_zero, List.set_cons_succ]
                    refine wpAnyZ_ready (rs := [7]) (by kernel_rfl) (by simp) ?_
                    refine AllReadyZ.cons (o := { dst := some 148, op := Go.Op.call { callee := Go.Callee.value (Go.Operand.func 19), args := #[Go.Operand.tmp 141, Go.Operand.tmp 142, Go.Operand.tmp 143, Go.Operand.tmp 147, Go.Operand.const (Go.Value.int Go.IntKind.i64 0)], argTypes := #[29, 3, 3, 3, 3] }, type := 3, pos := "outright.go:165", after := #[{ on := 0, ground := Go.Ground.data }, { on := 1, ground := Go.Ground.data }, { on := 2, ground := Go.Ground.data }, { on := 6, ground := Go.Ground.data }], guard := none }) rfl (fun K hK => ?_) ?_
                    · go_simp
                      refine (HWC2.out _ hD1).mono ?_
                      rintro e wq ⟨rfl, hbq⟩
                      refine hK.out _ _ ?_ (fun hHeld => ?_)
                      · (try dsimp only)
                        (exact hD1.go hbq)
                      clear hK K
                      try simp only [Act.put, List.setIfInBounds_toArray, List.set_cons_zero, List.set_cons_succ]
                      refine wpAnyZ_takeP (i := 8) (oi := { dst := some 149, op := Go.Op.binOp Go.BinOp.eql 3 (Go.Operand.tmp 148) (Go.Operand.const (Go.Value.int Go.IntKind.i64 0)) 3, type := 4, pos := "outright.go:165", after := #[{ on := 7, ground := Go.Ground.data }], guard := none }) (v := ?_) rfl (by kernel_rfl) (by kernel_rfl) (by kernel_rfl) (by kernel_rfl) (fun _ _ _ h => h) (Or.inl ⟨by rfl, ?_⟩) (fun _ => by assumption) ?_
                      rotate_left
                      · intro w hSw; (try dsimp only at hSw); go_simp; all_goals (try with_reducible rfl)
                      try simp only [Act.put, List.setIfInBounds_toArray, List.set_cons_zero, List.set_cons_succ]
                      refine wpAnyZ_takeP (i := 9) (oi := { dst := some 150, op := Go.Op.move (Go.Operand.tmp 149), type := 4, pos := "outright.go:165", after := #[{ on := 8, ground := Go.Ground.data }, { on := 7, ground := Go.Ground.chain }], guard := none }) (v := ?_) rfl (by kernel_rfl) (by kernel_rfl) (by kernel_rfl) (by kernel_rfl) (fun _ _ _ h => h) (Or.inl ⟨by rfl, ?_⟩) (fun _ => by assumption) ?_
                      rotate_left
                      · intro w hSw; (try dsimp only at hSw); go_simp; all_goals (try with_reducible rfl)
                      try simp only [Act.put, List.setIfInBounds_toArray, List.set_cons_zero, List.set_cons_succ]
                      refine wpAnyZ_takeP (i := 10) (oi := { dst := some 151, op := Go.Op.move (Go.Operand.tmp 17), type := 22, pos := "outright.go:165", after := #[{ on := 9, ground := Go.Ground.guard }], guard := some (9, true) }) (v := undef) rfl (by kernel_rfl) (by kernel_rfl) (by kernel_rfl) (by kernel_rfl) (fun _ _ _ h => h) (Or.inr ⟨by rfl, rfl⟩) (fun _ => by assumption) ?_
                      try simp only [Act.put, List.setIfInBounds_toArray, List.set_cons_zero, List.set_cons_succ]
                      refine wpAnyZ_takeP (i := 11) (oi := { dst := some 152, op := Go.Op.move (Go.Operand.tmp 19), type := 22, pos := "outright.go:165", after := #[{ on := 9, ground := Go.Ground.guard }], guard := some (9, true) }) (v := undef) rfl (by kernel_rfl) (by kernel_rfl) (by kernel_rfl) (by kernel_rfl) (fun _ _ _ h => h) (Or.inr ⟨by rfl, rfl⟩) (fun _ => by assumption) ?_
                      try simp only [Act.put, List.setIfInBounds_toArray, List.set_cons_zero, List.set_cons_succ]
                      refine wpAnyZ_takeP (i := 12) (oi := { dst := some 153, op := Go.Op.move (Go.Operand.tmp 21), type := 3, pos := "outright.go:165", after := #[{ on := 9, ground := Go.Ground.guard }], guard := some (9, true) }) (v := undef) rfl (by kernel_rfl) (by kernel_rfl) (by kernel_rfl) (by kernel_rfl) (fun _ _ _ h => h) (Or.inr ⟨by rfl, rfl⟩) (fun _ => by assumption) ?_
                      try simp only [Act.put, List.setIfInBounds_toArray, List.set_cons_zero, List.set_cons_succ]
                      refine wpAnyZ_takeP (i := 13) (oi := { dst := some 154, op := Go.Op.indexAddr 22 (Go.Operand.tmp 152) (Go.Operand.tmp 153), type := 0, pos := "outright.go:165", after := #[{ on := 11, ground := Go.Ground.data }, { on := 12, ground := Go.Ground.data }, { on := 9, ground := Go.Ground.guard }], guard := some (9, true) }) (v := undef) rfl (by kernel_rfl) (by kernel_rfl) (by kernel_rfl) (by kernel_rfl) (fun _ _ _ h => h) (Or.inr ⟨by rfl, rfl⟩) (fun _ => by assumption) ?_
                      try simp only [Act.put, List.setIfInBounds_toArray, List.set_cons_zero, List.set_cons_succ]
                      refine wpAnyZ_takeP (i := 14) (oi := { dst := some 155, op := Go.Op.load 3 (Go.Operand.tmp 154), type := 3, pos := "outright.go:165", after := #[{ on := 13, ground := Go.Ground.data }, { on := 9, ground := Go.Ground.guard }], guard := some (9, true) }) (v := undef) rfl (by kernel_rfl) (by kernel_rfl) (by kernel_rfl) (by kernel_rfl) (fun _ _ _ h => h) (Or.inr ⟨by rfl, rfl⟩) (fun _ => by assumption) ?_
                      try simp only [Act.put, List.setIfInBounds_toArray, List.set_cons_zero, List.set_cons_succ]
                      refine wpAnyZ_takeP (i := 15) (oi := { dst := some 156, op := Go.Op.call { callee := Go.Callee.value (Go.Operand.func 17), args := #[Go.Operand.tmp 151, Go.Operand.tmp 155], argTypes := #[22, 3] }, type := 4, pos := "outright.go:165", after := #[{ on := 10, ground := Go.Ground.data }, { on := 14, ground := Go.Ground.data }, { on := 9, ground := Go.Ground.chain }, { on := 9, ground := Go.Ground.guard }], guard := some (9, true) }) (v := undef) rfl (by kernel_rfl) (by kernel_rfl) (by kernel_rfl) (by kernel_rfl) (fun _ _ _ h => h) (Or.inr ⟨by rfl, rfl⟩) (fun _ => by assumption) ?_
                      try simp only [Act.put, List.setIfInBounds_toArray, List.set_cons_zero, List.set_cons_succ]
                      refine wpAnyZ_takeP (i := 16) (oi := { dst := some 157, op := Go.Op.unOp Go.UnOp.not 4 (Go.Operand.tmp 156), type := 4, pos := "outright.go:165", after := #[{ on := 15, ground := Go.Ground.data }, { on := 9, ground := Go.Ground.guard }], guard := some (9, true) }) (v := undef) rfl (by kernel_rfl) (by kernel_rfl) (by kernel_rfl) (by kernel_rfl) (fun _ _ _ h => h) (Or.inr ⟨by rfl, rfl⟩) (fun _ => by assumption) ?_
                      try simp only [Act.put, List.setIfInBounds_toArray, List.set_cons_zero, List.set_cons_succ]
                      refine wpAnyZ_ready (rs := [17]) (by kernel_rfl) (by simp) ?_
                      refine AllReadyZ.cons (o := { dst := some 158, op := Go.Op.pick (Go.Operand.tmp 150) (Go.Operand.tmp 157) (Go.Operand.const (Go.Value.bool false)), type := 4, pos := "outright.go:165", after := #[{ on := 9, ground := Go.Ground.data }, { on := 16, ground := Go.Ground.data }], guard := none }) rfl (fun K hK => ?_) ?_
                      · go_simp
                        refine hK.out _ _ ?_ (fun hHeld => ?_)
                        · (try dsimp only)
                          (exact hD1.go hbq)
                        clear hK K
                        try simp only [Act.put, List.setIfInBounds_toArray, List.set_cons_zero, List.set_cons_succ]
                        refine wpAnyZ_done (by kernel_rfl) ?_ _
                        refine NoPanic.normal ?_
                        (try simp only [Exit.then])
                        go_wp2_with fail
                        go_meet
                        case rel => exact ⟨rfl, hb0.go hbq⟩
                      exact AllReadyZ.nil
                    exact AllReadyZ.nil
                  · have en0 : winV (some true) = 1 := rfl
                    rw [en0] at HWC2
                    refine wp_region_noPanic ?_
                    refine wp_region_Z (S := (fun w' => Aft wr w')) (Z := []) (by kernel_rfl) ?_ (fun hHeld => ?_)
                    · (try dsimp only)
                      (exact hD1)
                    refine wpAnyZ_take (i := 0) (oi := { dst := some 141, op := Go.Op.load 29 (Go.Operand.tmp 4), type := 29, pos := "outright.go:165", after := #[], guard := none }) (v := ?_) rfl (by kernel_rfl) (by kernel_rfl) (by kernel_rfl) (by kernel_rfl) (by kernel_rfl) (fun _ _ _ h => h) (Or.inl ⟨by rfl, ?_⟩) (by assumption) ?_
                    rotate_left
                    · intro w hSw; (try dsimp only at hSw); go_simp; all_goals (try with_reducible rfl)
                    try simp only [Act.put, List.setIfInBounds_toArray, List.set_cons_zero, List.set_cons_succ]
                    refine wpAnyZ_takeP (i := 1) (oi := { dst := some 142, op := Go.Op.move (Go.Operand.tmp 1), type := 3, pos := "outright.go:165", after := #[], guard := none }) (v := ?_) rfl (by kernel_rfl) (by kernel_rfl) (by kernel_rfl) (by kernel_rfl) (fun _ _ _ h => h) (Or.inl ⟨by rfl, ?_⟩) (fun _ => by assumption) ?_
                    rotate_left
                    · intro w hSw; (try dsimp only at hSw); go_simp; all_goals (try with_reducible rfl)
                    try simp only [Act.put, List.setIfInBounds_toArray, List.set_cons_zero, List.set_cons_succ]
                    refine wpAnyZ_takeP (i := 2) (oi := { dst := some 143, op := Go.Op.move (Go.Operand.tmp 2), type := 3, pos := "outright.go:165", after := #[], guard := none }) (v := ?_) rfl (by kernel_rfl) (by kernel_rfl) (by kernel_rfl) (by kernel_rfl) (fun _ _ _ h => h) (Or.inl ⟨by rfl, ?_⟩) (fun _ => by assumption) ?_
                    rotate_left
                    · intro w hSw; (try dsimp only at hSw); go_simp; all_goals (try with_reducible rfl)
                    try simp only [Act.put, List.setIfInBounds_toArray, List.set_cons_zero, List.set_cons_succ]
                    refine wpAnyZ_takeP (i := 3) (oi := { dst := some 144, op := Go.Op.move (Go.Operand.tmp 19), type := 22, pos := "outright.go:165", after := #[], guard := none }) (v := ?_) rfl (by kernel_rfl) (by kernel_rfl) (by kernel_rfl) (by kernel_rfl) (fun _ _ _ h => h) (Or.inl ⟨by rfl, ?_⟩) (fun _ => by assumption) ?_
                    rotate_left
                    · intro w hSw; (try dsimp only at hSw); go_simp; all_goals (try with_reducible rfl)
                    try simp only [Act.put, List.setIfInBounds_toArray, List.set_cons_zero, List.set_cons_succ]
                    refine wpAnyZ_takeP (i := 4) (oi := { dst := some 145, op := Go.Op.move (Go.Operand.tmp 21), type := 3, pos := "outright.go:165", after := #[], guard := none }) (v := ?_) rfl (by kernel_rfl) (by kernel_rfl) (by kernel_rfl) (by kernel_rfl) (fun _ _ _ h => h) (Or.inl ⟨by rfl, ?_⟩) (fun _ => by assumption) ?_
                    rotate_left
                    · intro w hSw; (try dsimp only at hSw); go_simp; all_goals (try with_reducible rfl)
                    try simp only [Act.put, List.setIfInBounds_toArray, List.set_cons_zero, List.set_cons_succ]
                    refine wpAnyZ_takeP (i := 5) (oi := { dst := some 146, op := Go.Op.indexAddr 22 (Go.Operand.tmp 144) (Go.Operand.tmp 145), type := 0, pos := "outright.go:165", after := #[{ on := 3, ground := Go.Ground.data }, { on := 4, ground := Go.Ground.data }], guard := none }) (v := ?_) rfl (by kernel_rfl) (by kernel_rfl) (by kernel_rfl) (by kernel_rfl) (fun _ _ _ h => h) (Or.inl ⟨by rfl, ?_⟩) (fun _ => by assumption) ?_
                    rotate_left
                    · intro w hSw; (try dsimp only at hSw); go_simp; all_goals (try with_reducible rfl)
                    try simp only [Act.put, List.setIfInBounds_toArray, List.set_cons_zero, List.set_cons_succ]
                    refine wpAnyZ_take (i := 6) (oi := { dst := some 147, op := Go.Op.load 3 (Go.Operand.tmp 146), type := 3, pos := "outright.go:165", after := #[{ on := 5, ground := Go.Ground.data }], guard := none }) (v := ?_) rfl (by kernel_rfl) (by kernel_rfl) (by kernel_rfl) (by kernel_rfl) (by kernel_rfl) (fun _ _ _ h => h) (Or.inl ⟨by rfl, ?_⟩) (by assumption) ?_
                    rotate_left
                    · intro w hSw; (try dsimp only at hSw); go_simp; all_goals (try with_reducible rfl)
                    try simp only [Act.put, List.setIfInBounds_toArray, List.set_cons_zero, List.set_cons_succ]
                    refine wpAnyZ_ready (rs := [7]) (by kernel_rfl) (by simp) ?_
                    refine AllReadyZ.cons (o := { dst := some 148, op := Go.Op.call { callee := Go.Callee.value (Go.Operand.func 19), args := #[Go.Operand.tmp 141, Go.Operand.tmp 142, Go.Operand.tmp 143, Go.Operand.tmp 147, Go.Operand.const (Go.Value.int Go.IntKind.i64 0)], argTypes := #[29, 3, 3, 3, 3] }, type := 3, pos := "outright.go:165", after := #[{ on := 0, ground := Go.Ground.data }, { on := 1, ground := Go.Ground.data }, { on := 2, ground := Go.Ground.data }, { on := 6, ground := Go.Ground.data }], guard := none }) rfl (fun K hK => ?_) ?_
                    · go_simp
                      refine (HWC2.out _ hD1).mono ?_
                      rintro e wq ⟨rfl, hbq⟩
                      refine hK.out _ _ ?_ (fun hHeld => ?_)
                      · (try dsimp only)
                        (exact hD1.go hbq)
                      clear hK K
                      try simp only [Act.put, List.setIfInBounds_toArray, List.set_cons_zero, List.set_cons_succ]
                      refine wpAnyZ_takeP (i := 8) (oi := { dst := some 149, op := Go.Op.binOp Go.BinOp.eql 3 (Go.Operand.tmp 148) (Go.Operand.const (Go.Value.int Go.IntKind.i64 0)) 3, type := 4, pos := "outright.go:165", after := #[{ on := 7, ground := Go.Ground.data }], guard := none }) (v := ?_) rfl (by kernel_rfl) (by kernel_rfl) (by kernel_rfl) (by kernel_rfl) (fun _ _ _ h => h) (Or.inl ⟨by rfl, ?_⟩) (fun _ => by assumption) ?_
                      rotate_left
                      · intro w hSw; (try dsimp only at hSw); go_simp; all_goals (try with_reducible rfl)
                      try simp only [Act.put, List.setIfInBounds_toArray, List.set_cons_zero, List.set_cons_succ]
                      refine wpAnyZ_takeP (i := 9) (oi := { dst := some 150, op := Go.Op.move (Go.Operand.tmp 149), type := 4, pos := "outright.go:165", after := #[{ on := 8, ground := Go.Ground.data }, { on := 7, ground := Go.Ground.chain }], guard := none }) (v := ?_) rfl (by kernel_rfl) (by kernel_rfl) (by kernel_rfl) (by kernel_rfl) (fun _ _ _ h => h) (Or.inl ⟨by rfl, ?_⟩) (fun _ => by assumption) ?_
                      rotate_left
                      · intro w hSw; (try dsimp only at hSw); go_simp; all_goals (try with_reducible rfl)
                      try simp only [Act.put, List.setIfInBounds_toArray, List.set_cons_zero, List.set_cons_succ]
                      refine wpAnyZ_takeP (i := 10) (oi := { dst := some 151, op := Go.Op.move (Go.Operand.tmp 17), type := 22, pos := "outright.go:165", after := #[{ on := 9, ground := Go.Ground.guard }], guard := some (9, true) }) (v := undef) rfl (by kernel_rfl) (by kernel_rfl) (by kernel_rfl) (by kernel_rfl) (fun _ _ _ h => h) (Or.inr ⟨by rfl, rfl⟩) (fun _ => by assumption) ?_
                      try simp only [Act.put, List.setIfInBounds_toArray, List.set_cons_zero, List.set_cons_succ]
                      refine wpAnyZ_takeP (i := 11) (oi := { dst := some 152, op := Go.Op.move (Go.Operand.tmp 19), type := 22, pos := "outright.go:165", after := #[{ on := 9, ground := Go.Ground.guard }], guard := some (9, true) }) (v := undef) rfl (by kernel_rfl) (by kernel_rfl) (by kernel_rfl) (by kernel_rfl) (fun _ _ _ h => h) (Or.inr ⟨by rfl, rfl⟩) (fun _ => by assumption) ?_
                      try simp only [Act.put, List.setIfInBounds_toArray, List.set_cons_zero, List.set_cons_succ]
                      refine wpAnyZ_takeP (i := 12) (oi := { dst := some 153, op := Go.Op.move (Go.Operand.tmp 21), type := 3, pos := "outright.go:165", after := #[{ on := 9, ground := Go.Ground.guard }], guard := some (9, true) }) (v := undef) rfl (by kernel_rfl) (by kernel_rfl) (by kernel_rfl) (by kernel_rfl) (fun _ _ _ h => h) (Or.inr ⟨by rfl, rfl⟩) (fun _ => by assumption) ?_
                      try simp only [Act.put, List.setIfInBounds_toArray, List.set_cons_zero, List.set_cons_succ]
                      refine wpAnyZ_takeP (i := 13) (oi := { dst := some 154, op := Go.Op.indexAddr 22 (Go.Operand.tmp 152) (Go.Operand.tmp 153), type := 0, pos := "outright.go:165", after := #[{ on := 11, ground := Go.Ground.data }, { on := 12, ground := Go.Ground.data }, { on := 9, ground := Go.Ground.guard }], guard := some (9, true) }) (v := undef) rfl (by kernel_rfl) (by kernel_rfl) (by kernel_rfl) (by kernel_rfl) (fun _ _ _ h => h) (Or.inr ⟨by rfl, rfl⟩) (fun _ => by assumption) ?_
                      try simp only [Act.put, List.setIfInBounds_toArray, List.set_cons_zero, List.set_cons_succ]
                      refine wpAnyZ_takeP (i := 14) (oi := { dst := some 155, op := Go.Op.load 3 (Go.Operand.tmp 154), type := 3, pos := "outright.go:165", after := #[{ on := 13, ground := Go.Ground.data }, { on := 9, ground := Go.Ground.guard }], guard := some (9, true) }) (v := undef) rfl (by kernel_rfl) (by kernel_rfl) (by kernel_rfl) (by kernel_rfl) (fun _ _ _ h => h) (Or.inr ⟨by rfl, rfl⟩) (fun _ => by assumption) ?_
                      try simp only [Act.put, List.setIfInBounds_toArray, List.set_cons_zero, List.set_cons_succ]
                      refine wpAnyZ_takeP (i := 15) (oi := { dst := some 156, op := Go.Op.call { callee := Go.Callee.value (Go.Operand.func 17), args := #[Go.Operand.tmp 151, Go.Operand.tmp 155], argTypes := #[22, 3] }, type := 4, pos := "outright.go:165", after := #[{ on := 10, ground := Go.Ground.data }, { on := 14, ground := Go.Ground.data }, { on := 9, ground := Go.Ground.chain }, { on := 9, ground := Go.Ground.guard }], guard := some (9, true) }) (v := undef) rfl (by kernel_rfl) (by kernel_rfl) (by kernel_rfl) (by kernel_rfl) (fun _ _ _ h => h) (Or.inr ⟨by rfl, rfl⟩) (fun _ => by assumption) ?_
                      try simp only [Act.put, List.setIfInBounds_toArray, List.set_cons_zero, List.set_cons_succ]
                      refine wpAnyZ_takeP (i := 16) (oi := { dst := some 157, op := Go.Op.unOp Go.UnOp.not 4 (Go.Operand.tmp 156), type := 4, pos := "outright.go:165", after := #[{ on := 15, ground := Go.Ground.data }, { on := 9, ground := Go.Ground.guard }], guard := some (9, true) }) (v := undef) rfl (by kernel_rfl) (by kernel_rfl) (by kernel_rfl) (by kernel_rfl) (fun _ _ _ h => h) (Or.inr ⟨by rfl, rfl⟩) (fun _ => by assumption) ?_
                      try simp only [Act.put, List.setIfInBounds_toArray, List.set_cons_zero, List.set_cons_succ]
                      refine wpAnyZ_ready (rs := [17]) (by kernel_rfl) (by simp) ?_
                      refine AllReadyZ.cons (o := { dst := some 158, op := Go.Op.pick (Go.Operand.tmp 150) (Go.Operand.tmp 157) (Go.Operand.const (Go.Value.bool false)), type := 4, pos := "outright.go:165", after := #[{ on := 9, ground := Go.Ground.data }, { on := 16, ground := Go.Ground.data }], guard := none }) rfl (fun K hK => ?_) ?_
                      · go_simp
                        refine hK.out _ _ ?_ (fun hHeld => ?_)
                        · (try dsimp only)
                          (exact hD1.go hbq)
                        clear hK K
                        try simp only [Act.put, List.setIfInBounds_toArray, List.set_cons_zero, List.set_cons_succ]
                        refine wpAnyZ_done (by kernel_rfl) ?_ _
                        refine NoPanic.normal ?_
                        (try simp only [Exit.then])
                        go_wp2_with fail
                        go_meet
                        case rel => exact ⟨rfl, hb0.go hbq⟩
                      exact AllReadyZ.nil
                    exact AllReadyZ.nil
                case rest =>
                obtain ⟨rfl, hc2⟩ := hcut
                have HOW2 := hid (ownsRow_below HOW1.out hc2.below)
                have HLI2 := hid (HLI1.out.below hc2.below)
                have HAP3 := hid (HAP1.out.below hc2.below.size)
                have HBE3 := hid (HBE1.out.trans (hc2.below.mono HBE1.out.size))
                have hc3 := hc1.trans hc2
                clear HOW1 HLI1 HAP1 HBE1 HWC2 HAM hD1
                by_cases hin : c ∈ s
                · have hd : (decide (wv = none) && !decide (c ∈ s)) = false := by rw [decide_eq_true hin]; simp
                  have HM2 := hid (HMN.out s (fun _ h => h) (fun _ => hin))
                  rw [hd]
                  clear hin HMN HPC
                  go_wp2_with fail
                  go_roundg (gk - 1)
                  case measure => have := HM.out; have := HMT.out; omega
                  case rel => exact ⟨m + 1, s, by have := HM.out; have := HMT.out; omega, HKS.out, HS16.out, by rw [HRS.out], by go_num, HBF2.out, HSK.out, HM2.out, HOW2.out, HLI2.out, HAP3.out, HBE3.out⟩
                by_cases hwn : wv = none
                rotate_left
                · have hd : (decide (wv = none) && !decide (c ∈ s)) = false := by rw [decide_eq_false hwn]; rfl
                  have HM2 := hid (HMN.out s (fun _ h => h) (fun h => absurd h hwn))
                  rw [hd]
                  clear hin HMN HPC
                  go_wp2_with fail
                  go_roundg (gk - 1)
                  case measure => have := HM.out; have := HMT.out; omega
                  case rel => exact ⟨m + 1, s, by have := HM.out; have := HMT.out; omega, HKS.out, HS16.out, by rw [HRS.out], by go_num, HBF2.out, HSK.out, HM2.out, HOW2.out, HLI2.out, HAP3.out, HBE3.out⟩
                have hd : (decide (wv = none) && !decide (c ∈ s)) = true := by rw [decide_eq_true hwn, decide_eq_false hin]; rfl
                have hputb := HPC.out hwn hin
                have HPB := hid hputb
                have HLEN2 := hid (Nat.le_trans hputb.len HL16.out)
                have HM2 := hid (HMN.out (s ++ [c]) (fun x hx => List.mem_append.2 (.inl hx)) (fun _ => by simp))
                have HSK2 : Hid ((s ++ [c])[i]? = some u) := by
                  show _ = _
                  rw [List.getElem?_append_left (List.getElem?_eq_some_iff.1 HSK.out).1]
                  exact HSK.out
                have HKS2 : Hid (i ≤ (s ++ [c]).length) := by show _ ≤ _; rw [List.length_append]; have := HKS.out; omega
                rw [hd]
                obtain ⟨w5, rfl⟩ : ∃ w5 : World, w5 = wc := ⟨_, rfl⟩
                have hba : Below w5.heap.size w5 (w5.alloc (.cells #[.int .i64 c] 3)) := alloc_below _ _
                have HO6 := hid (HOW2.out.alloc (.cells #[.int .i64 c] 3))
                have HI6 := hid (ints_one (w := w5.alloc (.cells #[.int .i64 c] 3)) (b := w5.heap.size) (n := c) (cell_new _ _ _ _ rfl) (size_new _ _ _ rfl))
                have HL6 := hid (HLI2.out.below hba)
                have HA6 := hid (HAP3.out.below hba.size)
                have HB6 := hid (HBE3.out.trans (hba.mono HBE3.out.size))
                have hsz : w6.heap.size ≤ (w5.alloc (.cells #[.int .i64 c] 3)).heap.size := HB6.out.size
                have HRV := hid (HRP.out.trans HRS.out)
                clear hin hwn hputb hba hd HOW2 HLI2 HAP3 HBE3 HPC HMN HRS HRP
                go_wp2_with (at_builtin; refine wpList_append_intsN rfl (.tmp 159) (.tmp 164) rfl w6.heap.size (.slice (some ⟨b5, o5, none⟩) s.length vn) rfl s.length (intVals (ints s)) HO6.out (by have := HS16.out; omega) (.slice (some ⟨w5.heap.size, 0, none⟩) 1 1) [(c : Int)] rfl HI6.out (by simp) hsz ?_)
                intro v7 w7 hown7 hgr7 hnr7
                have HB7 := hid (own_grown HB6.out HO6.out hgr7 hsz)
                have HO7 : Hid (w7.ownsRow w6.heap.size 3 1 v7 (s ++ [c]).length (intVals (ints (s ++ [c])))) := by
                  show World.ownsRow _ _ _ _ _ _ _
                  rw [ints_append, intVals_append, List.length_append]
                  exact hown7
                have HL7 := hid (HA6.out.ints hgr7 HL6.out)
                have HA7 := hid (HA6.out.grown hgr7 hnr7)
                obtain ⟨xa2, xn2, rfl⟩ := own_slice hown7
                clear hown7 hgr7 hnr7 HO6 HI6 HL6 HA6 HB6 hsz
                have he : s.length + 1 = (s ++ [c]).length := by simp
                rw [he] at HA7 HO7
                rw [he]
                generalize s ++ [c] = s2 at *
                clear he
                go_wp2
                go_roundg (gk - 1)
                case measure => have := HM.out; have := HMT.out; omega
                case rel => exact ⟨m + 1, s2, by have := HM.out; have := HMT.out; omega, HKS2.out, HLEN2.out, by rw [HRV.out], by go_num, HPB.out, HSK2.out, HM2.out, HO7.out, HL7.out, HA7.out, HB7.out⟩
              · obtain rfl : m = tl.length := by omega
                have HNB := hid (HNX2.out s hbf hsk (metW_all hmet))
                have hk2 : i + 1 ≤ s.length := (List.getElem?_eq_some_iff.1 hsk).1
                have HK2 := hid hk2
                have HRE := hid (rdI_end hB h1 hsk HHU.out)
                clear hm hbf hsk hmet hown hli hap hbe hmt his2 hA
                rw [HRE.out]
                go_wp2
                go_roundg (g1 - 1)
                case measure => have := HI.out; have := HNB.out.len; have := HK2.out; omega
                case rel => exact ⟨i + 1, s, by have := HI.out; have := HNB.out.len; have := HK2.out; omega, HK2.out, rfl, by go_num, HNB.out, HOWN.out, HBE2.out⟩
        · obtain rfl : i = seen.length := by omega
          have HAM := hid (among_same _ _ (rn : Int) wr (HU6.out.below hbe))
          rw [HF.out seen HBF.out] at HAM
          have HRA := hid (rdO_all hB seen)
          rw [HRA.out]
          clear hi hown hbfs HBF HF HRA HOWN
          generalize seen.any hB = vb at *
          go_wp2_with fail
          refine HAM.out.mono ?_
          rintro e w9 ⟨rfl, rfl⟩
          have hvv : (vb == vb) = true := by simp
          clear HAM
          go_wp2
          go_ret
          exact ⟨rfl, hA.out HBW.out⟩
end Go.Proofs.YtkcocgdgmlmflaaDoor.LgZ
