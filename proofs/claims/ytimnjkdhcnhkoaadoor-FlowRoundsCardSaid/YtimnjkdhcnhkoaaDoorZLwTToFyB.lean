/- What the walks of laws over a program share. Walk over fescuelaw09.FlowRounds: rounds. Walk over fescue/fescuelaw09.FlowTells: where a block goes to, which go to it, whether it lies on a round. Walk over fescuelaw09.FlowBoth: to and from; what is reached. -/
import Derived.Test.YtimnjkdhcnhkoaaDoorZShIToFvA
import Derived.Test.YtimnjkdhcnhkoaaDoorZShRV
import Derived.Test.YtimnjkdhcnhkoaaDoorZShTP
import Derived.Test.YtimnjkdhcnhkoaaDoorZShBToShV
import Derived.Test.YtimnjkdhcnhkoaaDoorZShOpen
import Derived.Test.YtimnjkdhcnhkoaaDoorZTyBToTyREG
import Derived.Test.YtimnjkdhcnhkoaaDoorZIntOToAft
import Derived.Test.YtimnjkdhcnhkoaaDoorZFvPToFkW
import Derived.Deep.QuietTactic
import Derived.BigQuiet
import Derived.Test.YtimnjkdhcnhkoaaDoorZShRMgToFvHB
namespace Go.Proofs.YtimnjkdhcnhkoaaDoor.LwT
open Go.RowKit Go.Lib RwO SetP IntO TyM TyP TyB TyC ShM ShP ShA ShB ShC ShE ShR ShOpen ShRS ShTB ShTP Aft

/-- a program in a block of its own -/
theorem kept_new (w : World) (a b : Value) : ∃ W2, W2 = w.alloc (.cells #[a, b] 25) ∧ Aft w W2 ∧ W2.heap[w.heap.size]? = some (.cells #[a, b] 25 (0, 0)) :=
  ⟨_, rfl, (Aft.refl w).alloc _, alloc_new w _⟩
theorem i64_wf {n : Int} (h : (Lit.int .i64 n).wf = true) : -9223372036854775808 ≤ n ∧ n ≤ 9223372036854775807 := by
  simpa [Lit.wf, IntKind.min, IntKind.max, IntKind.signed, IntKind.bits] using h
end Go.Proofs.YtimnjkdhcnhkoaaDoor.LwT
namespace Go.Proofs.YtimnjkdhcnhkoaaDoor.FyR
open Go.RowKit Go.Lib RwO SetP IntO TyM TyP TyB TyC TyRE ShM ShP ShA ShB ShC ShE ShI ShJ ShR ShOpen ShRS ShRJ ShTB ShTP Aft Fresh LwT PgB FwM FwC FwP FwQ FwR FwB FwK FwO FvA FyP FyA FyC

/-- the first k come back -/
def backB (l : List Bx) (tl : List Nat) (b k : Nat) : Bool := (tl.take k).any fun a => comeB l a b
theorem back_succ {l : List Bx} {tl : List Nat} {b k : Nat} (h : k < tl.length) : backB l tl b (k + 1) = (backB l tl b k || comeB l tl[k] b) := by
  unfold backB
  rw [List.take_succ_eq_append_getElem h, List.any_append]
  simp
theorem back_all {l : List Bx} (hl : Low l) {b : Nat} (hb : b < l.length) : backB l (succ l b) b (succ l b).length = roundsL l b := by
  unfold backB
  rw [List.take_length, Bool.eq_iff_iff, List.any_eq_true, rounds_iff hl hb]
  constructor
  · rintro ⟨a, ha, h⟩
    exact ⟨a, ha, (comeB_iff hl (succ_lt hl b hb a ha)).1 h⟩
  · rintro ⟨a, ha, h⟩
    exact ⟨a, ha, (comeB_iff hl (succ_lt hl b hb a ha)).2 h⟩

set_option maxRecDepth 100000 in
set_option maxHeartbeats 16000000 in
theorem walk_of (CN : NextC) (CP : PredsC) (CO : OrderC) (CR : RoundC) (W : World) (v : Value) (p : Px) (S : PrAt W v p) (_ : ∀ y ∈ p.types, TyOk y) (z : ∀ y ∈ p.funcs, FxOk y) (ln : Lens p) (f : Int) (fw : (Lit.int .i64 f).wf = true) (b : Int) (bw : (Lit.int .i64 b).wf = true) (ht : Tab W) :
    Calls Tryd.prog 7 #[v, .int .i64 f, .int .i64 b] W fun e W' => e = .returned (.bool true) ∧ Below W.heap.size W W' := by
  have v64f : I64 f := i64_wf fw
  have v64b : I64 b := i64_wf bw
  have hok : POk p := fun f hf b hb => ⟨(z f hf b hb).1, fun y hy => ((z f hf b hb).2 y hy).1⟩
  have HOK := hid hok
  have hp0 := S
  obtain ⟨vt, vf, rfl, hvt, hvf⟩ := S
  obtain ⟨W0, hW0⟩ : ∃ W0, W0 = W.alloc (.cells #[vt, vf] 25) := ⟨_, rfl⟩
  have hbW : Below W.heap.size W W0 := by rw [hW0]; exact alloc_below _ _
  have k1 : W0.heap[W.heap.size]? = some (.cells #[vt, vf] 25 (0, 0)) := by rw [hW0]; exact alloc_new _ _
  have HP := hid (hp0.below hbW)
  have HT := hid (ht.on hbW)
  have HAL := hid (alive_of CN CP CO CR W0 HT.out)
  have HG := hid (fun wx (h : Aft W0 wx) => ShR.great_calls p _ 300 wx (HP.out.below h.below) ln (by decide) (by decide))
  obtain ⟨ta, tc, rfl⟩ := hvt.slice
  obtain ⟨fa, fc, rfl, _⟩ := hvf.slice
  have l0 : ∀ w', Aft W0 w' → w'.cell? ⟨W.heap.size, 0, none⟩ = some (.slice ta p.types.length tc) := later_cells k1 0 _ rfl
  have l1 : ∀ w', Aft W0 w' → w'.cell? ⟨W.heap.size, 1, none⟩ = some (.slice fa p.funcs.length fc) := later_cells k1 1 _ rfl
  have HBW := hid hbW
  have HW := hid hW0
  have h0 := Aft.refl W0
  have HIf := hid v64f
  have HIb := hid v64b
  clear hvt hvf hp0 hbW hW0 k1 z ln ht hok v64f fw v64b bw
  generalize p.types.length = n1 at *
  generalize p.funcs.length = n2 at *
  go_enter Tryd.func7, Tryd.ntmps7
  go_wp2_with fail
  rw [← HW.out]
  refine HAL.out.mono ?_
  rintro e w1 ⟨rfl, hb1⟩
  have h1 := h0.go hb1
  have HG1 := hid (HG.out w1 h1)
  clear HAL hb1 HG
  go_wp2_with fail
  refine HG1.out.mono ?_
  rintro e w2 ⟨gb, rfl, hsmall, hb2⟩
  have h2 := h1.go hb2
  clear HG1 hb2
  cases gb with
  | true =>
    clear hsmall
    go_wp2
    go_ret
    exact ⟨rfl, h2.out HBW.out⟩
  | false =>
  have HS := hid (hsmall rfl)
  clear hsmall h1 h0
  have HC1 := hid (CR p f b _ w2 (HP.out.below h2.below) (HT.out.on h2.below) HS.out HOK.out HIf.out HIb.out)
  go_wp2_with fail
  refine HC1.out.mono ?_
  rintro e w3 ⟨rfl, hb3⟩
  have h3 := h2.go hb3
  have HC2 := hid (NextC.e CN p f b _ w3 (HP.out.below h3.below) (HT.out.on h3.below) HS.out HOK.out HIf.out HIb.out)
  clear HC1 hb3 h2
  go_wp2_with fail
  refine HC2.out.mono ?_
  rintro e w4 ⟨u, rfl, hu, hb4⟩
  have h4 := h3.go hb4
  clear HC2 hb4 h3
  by_cases hz : askB p f b = 0
  rotate_left
  · have HR : Hid (roundA p f b = false) := by show _ = _; unfold roundA; rw [if_neg hz]
    obtain ⟨ua, uc, rfl, _⟩ := ints_slice hu
    have e0 : (askB p f b != 0) = true := by simpa using hz
    have e1 : (askB p f b == askB p f b) = true := by simp
    rw [HR.out]
    clear hu hz HR HS HOK HP HT HIf HIb
    generalize (nextA p f b).length = m at *
    generalize askB p f b = er at *
    go_wp2
    go_ret
    exact ⟨rfl, h4.out HBW.out⟩
  obtain ⟨hz1, b0, b1⟩ := ask_zero hz
  obtain ⟨hlow, _, _⟩ := low_fn HOK.out hz1
  obtain ⟨j, hj⟩ : ∃ j : Nat, b = j := ⟨b.toNat, by omega⟩
  subst hj
  have hjl : j < (blsP p f).length := by omega
  have HR : Hid (roundA p f (j : Int) = roundsL (blsP p f) j) := by show _ = _; unfold roundA; rw [if_pos hz, Int.toNat_natCast]
  rw [HR.out, hz]
  rw [next_succ HOK.out hz] at hu
  have HBA := hid (back_all hlow hjl)
  have HSX := hid (succ_lt hlow j hjl)
  have HS2 := hid (succ_len (blsP p f) j)
  have HCM := hid (fun (a : Nat) (ha : a < (blsP p f).length) (wx : World) (h : Aft W0 wx) => comes_of CN p f a j _ wx (HP.out.below h.below) (HT.out.on h.below) HS.out HOK.out HIf.out hz1 ha)
  have HBS := hid (fun k (h : k < (succ (blsP p f) j).length) => back_succ (l := blsP p f) (b := j) h)
  have HB0 : Hid (backB (blsP p f) (succ (blsP p f) j) j 0 = false) := by show _ = _; simp [backB]
  clear HR hz hz1 b0 b1 hlow hjl HS HOK HP HT HIf HIb
  have HU := hid hu
  obtain ⟨ua, uc, rfl, _⟩ := ints_slice hu
  rw [ints_length] at HU
  rw [ints_length]
  clear hu
  generalize succ (blsP p f) j = tl at *
  generalize roundsL (blsP p f) j = rd at *
  go_wp2_with fail
  go_loopg [12, 13] tl.length (fun gk cb iv wr => ∃ k : Nat, k + gk = tl.length ∧ iv = .int .i64 k ∧ cb = .bool (backB (blsP p f) tl j k) ∧ Below w4.heap.size w4 wr)
  case atStart => exact ⟨0, by omega, rfl, by rw [HB0.out], Below.refl _ _⟩
  case round =>
    obtain ⟨k, hk, rfl, rfl, hbe⟩ := hrel
    have HK := hid hk
    have hA : Aft W0 wr := h4.go hbe
    have HBE := hid hbe
    by_cases hlt : k < tl.length
    · have HLT := hid hlt
      have hb' := HBS.out k hlt
      obtain ⟨b2, o2, rfl, _, c2⟩ := TyP.ints_at (HU.out.below hbe) k (by rw [ints_length]; exact hlt)
      rw [nums_at hlt] at c2
      have HCC := hid (HCM.out tl[k] (HSX.out _ (List.getElem_mem hlt)) wr.drew hA.drew)
      have cs := later c2
      have hD := (Aft.refl wr).drew
      have r0 : ∀ w', Aft wr w' → w'.cell? ⟨W.heap.size, 0, none⟩ = some (.slice ta n1 tc) := fun w' h => l0 w' (hA.trans h)
      have r1 : ∀ w', Aft wr w' → w'.cell? ⟨W.heap.size, 1, none⟩ = some (.slice fa n2 fc) := fun w' h => l1 w' (hA.trans h)
      have hkl : (k : Int) < (tl.length : Int) := by omega
      have hkb : k ≤ 9223372036854775806 := by have := HS2.out; omega
      clear hk hbe
      generalize tl[k] = c at *
      have HNB := hid hb'
      clear hb' c2
      cases hcb : backB (blsP p f) tl j k with
      | true =>
        rw [hcb, Bool.true_or] at HNB
        clear hcb
        go_wp2_with fail
        go_quiet (fail)
        obtain ⟨wd, hwd⟩ : ∃ wd : World, wd = wr.drewN nq := ⟨_, rfl⟩
        have HBD : Hid (Below w4.heap.size w4 wd) := by show Below _ _ _; rw [hwd]; exact below_drewN HBE.out nq
        rw [← hwd]
        clear hwd
        go_wp2
        go_roundg (gk - 1)
        case measure => have := HK.out; have := HLT.out; omega
        case rel => exact ⟨k + 1, by have := HK.out; have := HLT.out; omega, by go_num, by rw [HNB.out], HBD.out⟩
      | false =>
        rw [hcb, Bool.false_or] at HNB
        clear hcb
        go_wp2_with fail
        go_region_held3 (fun w' => Aft wr w') (first | exact hD.go hb3 | exact hD)
          ((go_at_call 23; refine HCC.out.mono ?_; rintro e w3 ⟨rfl, hb3⟩))
        all_goals
          have HBD := hid (HBE.out.trans ((hD.go hb3).below.mono HBE.out.size))
          go_wp2
          go_roundg (gk - 1)
          case measure => have := HK.out; have := HLT.out; omega
          case rel => exact ⟨k + 1, by have := HK.out; have := HLT.out; omega, by go_num, by rw [HNB.out], HBD.out⟩
    · obtain rfl : k = tl.length := by omega
      rw [HBA.out]
      have hrr : (rd == rd) = true := by simp
      have HE := hid (hA.out HBW.out)
      clear hk hbe hA
      go_wp2
      go_ret
      exact ⟨rfl, HE.out⟩
end Go.Proofs.YtimnjkdhcnhkoaaDoor.FyR
namespace Go.Proofs.YtimnjkdhcnhkoaaDoor.FyT
open Go.RowKit Go.Lib RwO SetP IntO TyM TyP TyB TyC TyRE ShM ShP ShA ShB ShC ShE ShI ShJ ShR ShOpen ShRS ShRJ ShTB ShTP Aft LwT FwP FwQ FwR FwK FvB FvC FvH

set_option maxRecDepth 100000 in
set_option maxHeartbeats 16000000 in
theorem walk_of (CN : NextC) (CP : PredsC) (CR : RoundC) (W : World) (v : Value) (p : Px) (S : PrAt W v p) (_ : ∀ y ∈ p.types, TyOk y) (z : ∀ y ∈ p.funcs, FxOk y) (ln : Lens p) (f : Int) (fw : (Lit.int .i64 f).wf = true) (b : Int) (bw : (Lit.int .i64 b).wf = true) (ht : Tab W) :
    Calls Tryd.prog 4 #[v, .int .i64 f, .int .i64 b] W fun e W' => e = .returned (.bool true) ∧ Below W.heap.size W W' := by
  have v64f : I64 f := i64_wf fw
  have v64b : I64 b := i64_wf bw
  have hok : POk p := fun f hf b hb => ⟨(z f hf b hb).1, fun y hy => ((z f hf b hb).2 y hy).1⟩
  have HOK := hid hok
  have hp0 := S
  obtain ⟨vt, vf, rfl, hvt, hvf⟩ := S
  obtain ⟨W0, hW0⟩ : ∃ W0, W0 = W.alloc (.cells #[vt, vf] 25) := ⟨_, rfl⟩
  have hbW : Below W.heap.size W W0 := by rw [hW0]; exact alloc_below _ _
  have k1 : W0.heap[W.heap.size]? = some (.cells #[vt, vf] 25 (0, 0)) := by rw [hW0]; exact alloc_new _ _
  have HP := hid (hp0.below hbW)
  have HT := hid (ht.on hbW)
  have HG := hid (ShR.great_calls p _ 300 W0 HP.out ln (by decide) (by decide))
  obtain ⟨ta, tc, rfl⟩ := hvt.slice
  obtain ⟨fa, fc, rfl, _⟩ := hvf.slice
  have l0 : ∀ w', Aft W0 w' → w'.cell? ⟨W.heap.size, 0, none⟩ = some (.slice ta p.types.length tc) := later_cells k1 0 _ rfl
  have l1 : ∀ w', Aft W0 w' → w'.cell? ⟨W.heap.size, 1, none⟩ = some (.slice fa p.funcs.length fc) := later_cells k1 1 _ rfl
  have HBW := hid hbW
  have HW := hid hW0
  have h0 := Aft.refl W0
  have HIf := hid v64f
  have HIb := hid v64b
  clear hvt hvf hp0 hbW hW0 k1 z ln ht hok v64f fw v64b bw
  generalize p.types.length = n1 at *
  generalize p.funcs.length = n2 at *
  go_enter Tryd.func4, Tryd.ntmps4
  go_wp2_with fail
  rw [← HW.out]
  refine HG.out.mono ?_
  rintro e w1 ⟨gb, rfl, hsmall, hb1⟩
  have h1 := h0.go hb1
  clear HG hb1
  cases gb with
  | true =>
    clear hsmall
    go_wp2
    go_ret
    exact ⟨rfl, h1.out HBW.out⟩
  | false =>
  have hs := hsmall rfl
  have HS := hid hs
  clear hsmall hs
  have HTW := hid (twinRef_calls p _ w1 (HP.out.below h1.below) (ShTP.Small.fine HS.out))
  go_wp2_with fail
  refine HTW.out.mono ?_
  rintro e w2 ⟨u, rfl, hown, hb2⟩
  have h2 := h1.go hb2
  have hpu := hown.at (by have := HS.out.types; omega) (fun x hx => by have := HS.out.parts x hx; omega)
  obtain ⟨ut, uf, rfl, hut, huf⟩ := hpu
  have hpu : PrAt w2 (.agg #[ut, uf]) p := ⟨_, _, rfl, hut, huf⟩
  obtain ⟨uta, utc, rfl⟩ := hut.slice
  obtain ⟨ufa, ufc, rfl, _⟩ := huf.slice
  obtain ⟨W2, hW2, ha2, k2⟩ := kept_new w2 (.slice uta p.types.length utc) (.slice ufa p.funcs.length ufc)
  have HPU := hid (hpu.below ha2.below)
  have h3 := h2.trans ha2
  have m0 : ∀ w', Aft W2 w' → w'.cell? ⟨w2.heap.size, 0, none⟩ = some (.slice uta p.types.length utc) := later_cells k2 0 _ rfl
  have m1 : ∀ w', Aft W2 w' → w'.cell? ⟨w2.heap.size, 1, none⟩ = some (.slice ufa p.funcs.length ufc) := later_cells k2 1 _ rfl
  clear hb2 hown hut huf hpu HTW k2 ha2
  generalize p.types.length = n3 at *
  generalize p.funcs.length = n4 at *
  have HW2 := hid hW2
  clear hW2
  go_upto_region 4 with fail
  rw [← HW2.out]
  clear h2
  have C0 := hid (fun wx (h : Aft W2 wx) => NextC.e CN p f b _ wx (HPU.out.below h.below) (HT.out.on (h3.trans h).below) HS.out HOK.out HIf.out HIb.out)
  have C1 := hid (fun wx (h : Aft W0 wx) => FvB.next_calls p f b _ wx (HP.out.below h.below) HS.out HOK.out)
  have C2 := hid (fun wx (h : Aft W2 wx) => PredsC.e CP p f b _ wx (HPU.out.below h.below) (HT.out.on (h3.trans h).below) HS.out HOK.out HIf.out HIb.out)
  have C3 := hid (fun wx (h : Aft W0 wx) => FvC.preds_calls p f b _ wx (HP.out.below h.below) HS.out HOK.out)
  have C4 := hid (fun wx (h : Aft W2 wx) => CR p f b _ wx (HPU.out.below h.below) (HT.out.on (h3.trans h).below) HS.out HOK.out HIf.out HIb.out)
  have C5 := hid (fun wx (h : Aft W0 wx) => FvH.round_calls p f b _ wx (HP.out.below h.below) HS.out HOK.out)
  have CS := hid (fun wx (h : Aft W2 wx) => sameP_calls _ _ p p wx (HPU.out.below h.below) (HP.out.below (h3.trans h).below))
  rw [decide_eq_true rfl] at CS
  generalize nextA p f b = x0 at *
  generalize askB p f b = x1 at *
  generalize predsA p f b = x2 at *
  generalize roundA p f b = x3 at *
  have ex1 : (x1 == x1) = true := by simp
  have ex3 : (x3 == x3) = true := by simp
  have hw2 : Aft W2 W2 := Aft.refl W2
  clear HS HOK HP HPU HT HW2 HIf HIb
  have D0 := hid (C0.out _ hw2)
  clear C0
  go_wp2_with fail
  refine D0.out.mono ?_
  rintro e w3 ⟨u0, rfl, hu0, hb⟩
  obtain ⟨q0, c0, rfl, _⟩ := ints_slice hu0
  have HU0 := hid hu0
  clear hu0
  have a3 := hw2.go hb
  have b3 := h3.trans a3
  clear hb D0
  have D1 := hid (C1.out _ (h3.trans a3))
  clear C1
  go_wp2_with fail
  refine D1.out.mono ?_
  rintro e w4 ⟨u1, rfl, hu1, hb⟩
  obtain ⟨q1, c1, rfl, _⟩ := ints_slice hu1
  have HU0 := hid (HU0.out.below hb)
  have HU1 := hid hu1
  clear hu1
  have a4 := a3.go hb
  have b4 := h3.trans a4
  clear hb D1
  have D2 := hid (C2.out _ a4)
  clear C2
  go_wp2_with fail
  refine D2.out.mono ?_
  rintro e w5 ⟨u2, rfl, hu2, hb⟩
  obtain ⟨q2, c2, rfl, _⟩ := ints_slice hu2
  have HU0 := hid (HU0.out.below hb)
  have HU1 := hid (HU1.out.below hb)
  have HU2 := hid hu2
  clear hu2
  have a5 := a4.go hb
  have b5 := h3.trans a5
  clear hb D2
  have D3 := hid (C3.out _ (h3.trans a5))
  clear C3
  go_wp2_with fail
  refine D3.out.mono ?_
  rintro e w6 ⟨u3, rfl, hu3, hb⟩
  obtain ⟨q3, c3, rfl, _⟩ := ints_slice hu3
  have HU0 := hid (HU0.out.below hb)
  have HU1 := hid (HU1.out.below hb)
  have HU2 := hid (HU2.out.below hb)
  have HU3 := hid hu3
  clear hu3
  have a6 := a5.go hb
  have b6 := h3.trans a6
  clear hb D3
  have D4 := hid (C4.out _ a6)
  clear C4
  go_wp2_with fail
  refine D4.out.mono ?_
  rintro e w7 ⟨rfl, hb⟩
  have HU0 := hid (HU0.out.below hb)
  have HU1 := hid (HU1.out.below hb)
  have HU2 := hid (HU2.out.below hb)
  have HU3 := hid (HU3.out.below hb)
  have a7 := a6.go hb
  have b7 := h3.trans a7
  clear hb D4
  have D5 := hid (C5.out _ (h3.trans a7))
  clear C5
  go_wp2_with fail
  refine D5.out.mono ?_
  rintro e w8 ⟨rfl, hb⟩
  have HU0 := hid (HU0.out.below hb)
  have HU1 := hid (HU1.out.below hb)
  have HU2 := hid (HU2.out.below hb)
  have HU3 := hid (HU3.out.below hb)
  have a8 := a7.go hb
  have b8 := h3.trans a8
  clear hb D5
  have HQ := hid (sameInts_calls _ _ x0 x0 _ HU0.out HU1.out)
  rw [decide_eq_true rfl] at HQ
  go_wp2_with fail
  refine HQ.out.mono ?_
  rintro e w9 ⟨rfl, hb⟩
  have HU0 := hid (HU0.out.below hb)
  have HU1 := hid (HU1.out.below hb)
  have HU2 := hid (HU2.out.below hb)
  have HU3 := hid (HU3.out.below hb)
  have a9 := a8.go hb
  have b9 := h3.trans a9
  clear hb HQ
  have HQ := hid (sameInts_calls _ _ x2 x2 _ HU2.out HU3.out)
  rw [decide_eq_true rfl] at HQ
  go_wp2_with fail
  refine HQ.out.mono ?_
  rintro e w10 ⟨rfl, hb⟩
  have HU0 := hid (HU0.out.below hb)
  have HU1 := hid (HU1.out.below hb)
  have HU2 := hid (HU2.out.below hb)
  have HU3 := hid (HU3.out.below hb)
  have a10 := a9.go hb
  have b10 := h3.trans a10
  clear hb HQ
  have DS := hid (CS.out _ a10)
  clear CS
  go_wp2_with fail
  refine DS.out.mono ?_
  rintro e w11 ⟨rfl, hb⟩
  have a11 := a10.go hb
  have b11 := h3.trans a11
  clear hb DS
  have HE := hid ((h3.trans a11).out HBW.out)
  go_wp2
  go_ret
  exact ⟨rfl, HE.out⟩
end Go.Proofs.YtimnjkdhcnhkoaaDoor.FyT
namespace Go.Proofs.YtimnjkdhcnhkoaaDoor.FyB
open Go.RowKit Go.Lib RwO SetP IntO TyM TyP TyB TyC TyRE ShM ShP ShA ShB ShC ShE ShI ShJ ShR ShOpen ShRS ShRJ ShTB ShTP Aft Fresh LwT PgB FwM FwC FwP FwQ FwR FwB FwK FwO FvA FyP FyA FyC

/-- block 0, or one of the first k is among some -/
def someB (r ah : List Nat) (b k : Nat) : Bool := decide ((b : Int) = 0) || (ah.take k).any fun x => decide (x ∈ r)
theorem some_succ {r ah : List Nat} {b k : Nat} (h : k < ah.length) : someB r ah b (k + 1) = (someB r ah b k || decide (ah[k] ∈ r)) := by
  unfold someB
  rw [List.take_succ_eq_append_getElem h, List.any_append]
  simp [Bool.or_assoc]
theorem some_all {l : List Bx} (h : Low l) (h0 : 0 < l.length) (b : Nat) : decide (b ∈ reachedL l) = someB (reachedL l) (aheadL l b) b (aheadL l b).length := by
  unfold someB
  rw [List.take_length, Bool.eq_iff_iff, decide_eq_true_iff, reached_step h h0 b]
  simp only [Bool.or_eq_true, decide_eq_true_eq, List.any_eq_true]
  constructor
  · rintro (e | h)
    · exact .inl (by omega)
    · exact .inr h
  · rintro (e | h)
    · exact .inl (by omega)
    · exact .inr h
theorem ints_dec (l : List Nat) (n : Nat) : decide ((n : Int) ∈ ints l) = decide (n ∈ l) := decide_eq_decide.2 ints_mem

set_option maxRecDepth 100000 in
set_option maxHeartbeats 16000000 in
theorem walk_of (CN : NextC) (CP : PredsC) (CO : OrderC) (CR : RoundC) (CE : ReachC) (W : World) (v : Value) (p : Px) (S : PrAt W v p) (_ : ∀ y ∈ p.types, TyOk y) (z : ∀ y ∈ p.funcs, FxOk y) (ln : Lens p) (f : Int) (fw : (Lit.int .i64 f).wf = true) (a : Int) (aw : (Lit.int .i64 a).wf = true) (b : Int) (bw : (Lit.int .i64 b).wf = true) (ht : Tab W) :
    Calls Tryd.prog 5 #[v, .int .i64 f, .int .i64 a, .int .i64 b] W fun e W' => e = .returned (.bool true) ∧ Below W.heap.size W W' := by
  have v64f : I64 f := i64_wf fw
  have v64a : I64 a := i64_wf aw
  have v64b : I64 b := i64_wf bw
  have hok : POk p := fun f hf b hb => ⟨(z f hf b hb).1, fun y hy => ((z f hf b hb).2 y hy).1⟩
  have HOK := hid hok
  have hp0 := S
  obtain ⟨vt, vf, rfl, hvt, hvf⟩ := S
  obtain ⟨W0, hW0⟩ : ∃ W0, W0 = W.alloc (.cells #[vt, vf] 25) := ⟨_, rfl⟩
  have hbW : Below W.heap.size W W0 := by rw [hW0]; exact alloc_below _ _
  have k1 : W0.heap[W.heap.size]? = some (.cells #[vt, vf] 25 (0, 0)) := by rw [hW0]; exact alloc_new _ _
  have HP := hid (hp0.below hbW)
  have HT := hid (ht.on hbW)
  have HAL := hid (alive_of CN CP CO CR W0 HT.out)
  have HG := hid (fun wx (h : Aft W0 wx) => ShR.great_calls p _ 300 wx (HP.out.below h.below) ln (by decide) (by decide))
  obtain ⟨ta, tc, rfl⟩ := hvt.slice
  obtain ⟨fa, fc, rfl, _⟩ := hvf.slice
  have l0 : ∀ w', Aft W0 w' → w'.cell? ⟨W.heap.size, 0, none⟩ = some (.slice ta p.types.length tc) := later_cells k1 0 _ rfl
  have l1 : ∀ w', Aft W0 w' → w'.cell? ⟨W.heap.size, 1, none⟩ = some (.slice fa p.funcs.length fc) := later_cells k1 1 _ rfl
  have HBW := hid hbW
  have HW := hid hW0
  have h0 := Aft.refl W0
  have HIf := hid v64f
  have HIa := hid v64a
  have HIb := hid v64b
  clear hvt hvf hp0 hbW hW0 k1 z ln ht hok v64f fw v64a aw v64b bw
  generalize p.types.length = n1 at *
  generalize p.funcs.length = n2 at *
  go_enter Tryd.func5, Tryd.ntmps5
  go_wp2_with fail
  rw [← HW.out]
  refine HAL.out.mono ?_
  rintro e w1 ⟨rfl, hb1⟩
  have h1 := h0.go hb1
  have HG1 := hid (HG.out w1 h1)
  clear HAL hb1 HG
  go_wp2_with fail
  refine HG1.out.mono ?_
  rintro e w2 ⟨gb, rfl, hsmall, hb2⟩
  have h2 := h1.go hb2
  clear HG1 hb2
  cases gb with
  | true =>
    clear hsmall
    go_wp2
    go_ret
    exact ⟨rfl, h2.out HBW.out⟩
  | false =>
  have HS := hid (hsmall rfl)
  clear hsmall h1 h0
  have HC1 := hid (NextC.e CN p f a _ w2 (HP.out.below h2.below) (HT.out.on h2.below) HS.out HOK.out HIf.out HIa.out)
  go_wp2_with fail
  refine HC1.out.mono ?_
  rintro e w3 ⟨u1, rfl, hu1, hb3⟩
  have h3 := h2.go hb3
  have HC2 := hid (PredsC.e CP p f b _ w3 (HP.out.below h3.below) (HT.out.on h3.below) HS.out HOK.out HIf.out HIb.out)
  clear HC1 h2
  go_wp2_with fail
  refine HC2.out.mono ?_
  rintro e w4 ⟨u2, rfl, hu2, hb4⟩
  have h4 := h3.go hb4
  have HC3 := hid (ReachC.e CE p f _ w4 (HP.out.below h4.below) (HT.out.on h4.below) HS.out HOK.out HIf.out)
  clear HC2 h3 hb3
  go_wp2_with fail
  refine HC3.out.mono ?_
  rintro e w5 ⟨u3, rfl, hu3, hb5⟩
  have h5 := h4.go hb5
  have hu1 := (hu1.below hb4).below hb5
  have hu2 := hu2.below hb5
  clear HC3 h4 hb4 hb5
  obtain ⟨q1, c1, rfl, _⟩ := ints_slice hu1
  obtain ⟨q2, c2, rfl, _⟩ := ints_slice hu2
  obtain ⟨q3, c3, rfl, _⟩ := ints_slice hu3
  by_cases hz : askB p f a = 0
  rotate_left
  · have e0 : (askB p f a != 0) = true := by simpa using hz
    have HE := hid (h5.out HBW.out)
    clear hu1 hu2 hu3 hz HS HOK HP HT HIf HIa HIb
    generalize (nextA p f a).length = m1 at *
    generalize (predsA p f b).length = m2 at *
    generalize (reachA p f).length = m3 at *
    generalize askB p f a = er1 at *
    generalize askB p f b = er2 at *
    generalize findP p f = er3 at *
    go_wp2
    go_ret
    exact ⟨rfl, HE.out⟩
  by_cases hzb : askB p f b = 0
  rotate_left
  · rw [hz]
    have e0 : (askB p f b != 0) = true := by simpa using hzb
    have HE := hid (h5.out HBW.out)
    clear hu1 hu2 hu3 hz hzb HS HOK HP HT HIf HIa HIb
    generalize (nextA p f a).length = m1 at *
    generalize (predsA p f b).length = m2 at *
    generalize (reachA p f).length = m3 at *
    generalize askB p f b = er2 at *
    generalize findP p f = er3 at *
    go_wp2
    go_ret
    exact ⟨rfl, HE.out⟩
  obtain ⟨hz1, a0, a1⟩ := ask_zero hz
  obtain ⟨_, b0, b1⟩ := ask_zero hzb
  obtain ⟨hlow, hn0, hn16⟩ := low_fn HOK.out hz1
  obtain ⟨i, hi⟩ : ∃ i : Nat, a = i := ⟨a.toNat, by omega⟩
  obtain ⟨j, hj⟩ : ∃ j : Nat, b = j := ⟨b.toNat, by omega⟩
  subst hi
  subst hj
  have hil : i < (blsP p f).length := by omega
  have HA2 : predsA p f (j : Int) = ints (aheadL (blsP p f) j) := by unfold predsA; rw [if_pos hzb, Int.toNat_natCast]
  have HA3 : reachA p f = ints (reachedL (blsP p f)) := by unfold reachA; rw [if_pos hz1]
  rw [next_succ HOK.out hz] at hu1 ⊢
  rw [HA2] at hu2 ⊢
  rw [HA3] at hu3 ⊢
  rw [hz, hzb, hz1]
  have HSA := hid (some_all hlow hn0 j)
  have HR0 : Hid (decide (0 ∈ reachedL (blsP p f)) = true) := decide_eq_true ((reached_mem hlow hn0 0).2 .here)
  have HST : Hid (i ∈ reachedL (blsP p f) → j ∈ succ (blsP p f) i → j ∈ reachedL (blsP p f)) := fun h1 h2 => (reached_mem hlow hn0 j).2 (.step ((reached_mem hlow hn0 i).1 h1) h2)
  have HAA : Hid (decide (i ∈ aheadL (blsP p f) j) = decide (j ∈ succ (blsP p f) i)) := decide_eq_decide.2 ⟨fun h => (ahead_mem.1 h).2, fun h => ahead_mem.2 ⟨hil, h⟩⟩
  have HL2 : Hid ((aheadL (blsP p f) j).length ≤ 16) := by
    have := List.length_filter_le (fun x => decide (j ∈ succ (blsP p f) x)) (List.range (blsP p f).length)
    rw [List.length_range] at this
    exact Nat.le_trans this hn16
  have HSS := hid (fun k (h : k < (aheadL (blsP p f) j).length) => some_succ (r := reachedL (blsP p f)) (b := j) h)
  clear HA2 HA3 hz hzb hz1 a0 a1 b0 b1 hlow hn0 hn16 hil HS HOK HP HT HIf HIa HIb
  have HU1 := hid hu1
  have HU2 := hid hu2
  have HU3 := hid hu3
  rw [ints_length] at HU1 HU2 HU3
  rw [ints_length, ints_length, ints_length]
  clear hu1 hu2 hu3
  generalize reachedL (blsP p f) = R at *
  generalize succ (blsP p f) i = T at *
  generalize aheadL (blsP p f) j = H at *
  have A1 := hid (fun (n : Nat) wx (h : Aft w5 wx) => ints_dec R n ▸ among_calls _ (ints R) n wx (HU3.out.below h.below))
  have A2 := hid (fun (n : Nat) wx (h : Aft w5 wx) => ints_dec T n ▸ among_calls _ (ints T) n wx (HU1.out.below h.below))
  have A3 := hid (fun (n : Nat) wx (h : Aft w5 wx) => ints_dec H n ▸ among_calls _ (ints H) n wx (HU2.out.below h.below))
  have g5 := Aft.refl w5
  by_cases hxx : i ∈ R
  · have hx : decide (i ∈ R) = true := decide_eq_true hxx
    by_cases hyy : j ∈ T
    · have hy : decide (j ∈ T) = true := decide_eq_true hyy
      have hr : decide (j ∈ R) = true := decide_eq_true (HST.out hxx hyy)
      clear hxx hyy
      have HQ := hid (A1.out i w5 g5)
      rw [hx] at HQ
      go_wp2_with fail
      refine HQ.out.mono ?_
      rintro e w6 ⟨rfl, hb⟩
      have g6 := g5.go hb
      clear hb HQ
      have HQ := hid (A2.out j w6 g6)
      rw [hy] at HQ
      go_wp2_with fail
      refine HQ.out.mono ?_
      rintro e w7 ⟨rfl, hb⟩
      have g7 := g6.go hb
      clear hb HQ
      have HQ := hid (A1.out j w7 g7)
      rw [hr] at HQ
      go_wp2_with fail
      refine HQ.out.mono ?_
      rintro e w8 ⟨rfl, hb⟩
      have g8 := g7.go hb
      clear hb HQ
      have HQ := hid (A1.out 0 w8 g8)
      rw [HR0.out] at HQ
      go_wp2_with fail
      refine HQ.out.mono ?_
      rintro e w9 ⟨rfl, hb⟩
      have g9 := g8.go hb
      clear hb HQ
      have HQ := hid (A2.out j w9 g9)
      rw [hy] at HQ
      go_wp2_with fail
      refine HQ.out.mono ?_
      rintro e w10 ⟨rfl, hb⟩
      have g10 := g9.go hb
      clear hb HQ
      have HQ := hid (A3.out i w10 g10)
      rw [HAA.out, hy] at HQ
      go_wp2_with fail
      refine HQ.out.mono ?_
      rintro e w11 ⟨rfl, hb⟩
      have g11 := g10.go hb
      clear hb HQ
      have hW : Aft W0 w11 := h5.trans g11
      clear A2 A3 HAA HST HR0 HU1
      have HB0 : Hid (((j : Int) == 0) = someB R H j 0) := Bool.eq_iff_iff.2 (by simp [someB])
      go_wp2_with fail
      go_loopg [16, 17] H.length (fun gk sb iv wr => ∃ k : Nat, k + gk = H.length ∧ iv = .int .i64 k ∧ sb = .bool (someB R H j k) ∧ Aft w5 wr)
      case atStart => exact ⟨0, by omega, rfl, by rw [HB0.out], g11⟩
      case round =>
        obtain ⟨k, hk, rfl, rfl, hbe⟩ := hrel
        have HK := hid hk
        have HBE := hid hbe
        by_cases hlt : k < H.length
        · have HLT := hid hlt
          have hnb := HSS.out k hlt
          obtain ⟨b2, o2, rfl, _, cc⟩ := TyP.ints_at (HU2.out.below hbe.below) k (by rw [ints_length]; exact hlt)
          rw [nums_at hlt] at cc
          have HCC := hid (A1.out H[k] wr hbe)
          have hkl : (k : Int) < (H.length : Int) := by omega
          have hkb : k ≤ 9223372036854775806 := by have := HL2.out; omega
          clear hk
          generalize H[k] = c at *
          have HNB := hid hnb
          clear hnb
          cases hcb : someB R H j k with
          | true =>
            rw [hcb, Bool.true_or] at HNB
            clear hcb hbe
            go_wp2
            go_roundg (gk - 1)
            case measure => have := HK.out; have := HLT.out; omega
            case rel => exact ⟨k + 1, by have := HK.out; have := HLT.out; omega, by go_num, by rw [HNB.out], HBE.out⟩
          | false =>
            rw [hcb, Bool.false_or] at HNB
            clear hcb hbe
            go_wp2_with fail
            refine HCC.out.mono ?_
            rintro e wq ⟨rfl, hb⟩
            have HBQ := hid (HBE.out.go hb)
            clear hb HCC
            go_wp2
            go_roundg (gk - 1)
            case measure => have := HK.out; have := HLT.out; omega
            case rel => exact ⟨k + 1, by have := HK.out; have := HLT.out; omega, by go_num, by rw [HNB.out], HBQ.out⟩
        · obtain rfl : k = H.length := by omega
          rw [← HSA.out]
          have HQ := hid (A1.out j wr hbe)
          clear hk A1
          generalize decide (j ∈ R) = rb at *
          have hrr : (rb == rb) = true := by simp
          go_wp2_with fail
          refine HQ.out.mono ?_
          rintro e wq ⟨rfl, hb⟩
          have HE := hid ((h5.trans (HBE.out.go hb)).out HBW.out)
          clear hb HQ
          go_wp2
          go_ret
          exact ⟨rfl, HE.out⟩
    · have hy : decide (j ∈ T) = false := decide_eq_false hyy
      clear hxx hyy
      have HQ := hid (A1.out i w5 g5)
      rw [hx] at HQ
      go_wp2_with fail
      refine HQ.out.mono ?_
      rintro e w6 ⟨rfl, hb⟩
      have g6 := g5.go hb
      clear hb HQ
      have HQ := hid (A2.out j w6 g6)
      rw [hy] at HQ
      go_wp2_with fail
      refine HQ.out.mono ?_
      rintro e w7 ⟨rfl, hb⟩
      have g7 := g6.go hb
      clear hb HQ
      have HQ := hid (A1.out 0 w7 g7)
      rw [HR0.out] at HQ
      go_wp2_with fail
      refine HQ.out.mono ?_
      rintro e w8 ⟨rfl, hb⟩
      have g8 := g7.go hb
      clear hb HQ
      have HQ := hid (A2.out j w8 g8)
      rw [hy] at HQ
      go_wp2_with fail
      refine HQ.out.mono ?_
      rintro e w9 ⟨rfl, hb⟩
      have g9 := g8.go hb
      clear hb HQ
      have HQ := hid (A3.out i w9 g9)
      rw [HAA.out, hy] at HQ
      go_wp2_with fail
      refine HQ.out.mono ?_
      rintro e w10 ⟨rfl, hb⟩
      have g10 := g9.go hb
      clear hb HQ
      have hW : Aft W0 w10 := h5.trans g10
      clear A2 A3 HAA HST HR0 HU1
      have HB0 : Hid (((j : Int) == 0) = someB R H j 0) := Bool.eq_iff_iff.2 (by simp [someB])
      go_wp2_with fail
      go_loopg [16, 17] H.length (fun gk sb iv wr => ∃ k : Nat, k + gk = H.length ∧ iv = .int .i64 k ∧ sb = .bool (someB R H j k) ∧ Aft w5 wr)
      case atStart => exact ⟨0, by omega, rfl, by rw [HB0.out], g10⟩
      case round =>
        obtain ⟨k, hk, rfl, rfl, hbe⟩ := hrel
        have HK := hid hk
        have HBE := hid hbe
        by_cases hlt : k < H.length
        · have HLT := hid hlt
          have hnb := HSS.out k hlt
          obtain ⟨b2, o2, rfl, _, cc⟩ := TyP.ints_at (HU2.out.below hbe.below) k (by rw [ints_length]; exact hlt)
          rw [nums_at hlt] at cc
          have HCC := hid (A1.out H[k] wr hbe)
          have hkl : (k : Int) < (H.length : Int) := by omega
          have hkb : k ≤ 9223372036854775806 := by have := HL2.out; omega
          clear hk
          generalize H[k] = c at *
          have HNB := hid hnb
          clear hnb
          cases hcb : someB R H j k with
          | true =>
            rw [hcb, Bool.true_or] at HNB
            clear hcb hbe
            go_wp2
            go_roundg (gk - 1)
            case measure => have := HK.out; have := HLT.out; omega
            case rel => exact ⟨k + 1, by have := HK.out; have := HLT.out; omega, by go_num, by rw [HNB.out], HBE.out⟩
          | false =>
            rw [hcb, Bool.false_or] at HNB
            clear hcb hbe
            go_wp2_with fail
            refine HCC.out.mono ?_
            rintro e wq ⟨rfl, hb⟩
            have HBQ := hid (HBE.out.go hb)
            clear hb HCC
            go_wp2
            go_roundg (gk - 1)
            case measure => have := HK.out; have := HLT.out; omega
            case rel => exact ⟨k + 1, by have := HK.out; have := HLT.out; omega, by go_num, by rw [HNB.out], HBQ.out⟩
        · obtain rfl : k = H.length := by omega
          rw [← HSA.out]
          have HQ := hid (A1.out j wr hbe)
          clear hk A1
          generalize decide (j ∈ R) = rb at *
          have hrr : (rb == rb) = true := by simp
          go_wp2_with fail
          refine HQ.out.mono ?_
          rintro e wq ⟨rfl, hb⟩
          have HE := hid ((h5.trans (HBE.out.go hb)).out HBW.out)
          clear hb HQ
          go_wp2
          go_ret
          exact ⟨rfl, HE.out⟩
  · have hx : decide (i ∈ R) = false := decide_eq_false hxx
    obtain ⟨y, hy⟩ : ∃ y, decide (j ∈ T) = y := ⟨_, rfl⟩
    have hyy : (y != y) = false := by simp
    clear hxx
    have HQ := hid (A1.out i w5 g5)
    rw [hx] at HQ
    go_wp2_with fail
    refine HQ.out.mono ?_
    rintro e w6 ⟨rfl, hb⟩
    have g6 := g5.go hb
    clear hb HQ
    have HQ := hid (A1.out 0 w6 g6)
    rw [HR0.out] at HQ
    go_wp2_with fail
    refine HQ.out.mono ?_
    rintro e w7 ⟨rfl, hb⟩
    have g7 := g6.go hb
    clear hb HQ
    have HQ := hid (A2.out j w7 g7)
    rw [hy] at HQ
    go_wp2_with fail
    refine HQ.out.mono ?_
    rintro e w8 ⟨rfl, hb⟩
    have g8 := g7.go hb
    clear hb HQ
    have HQ := hid (A3.out i w8 g8)
    rw [HAA.out, hy] at HQ
    go_wp2_with fail
    refine HQ.out.mono ?_
    rintro e w9 ⟨rfl, hb⟩
    have g9 := g8.go hb
    clear hb HQ
    have hW : Aft W0 w9 := h5.trans g9
    clear A2 A3 HAA HST HR0 HU1
    have HB0 : Hid (((j : Int) == 0) = someB R H j 0) := Bool.eq_iff_iff.2 (by simp [someB])
    go_wp2_with fail
    go_loopg [16, 17] H.length (fun gk sb iv wr => ∃ k : Nat, k + gk = H.length ∧ iv = .int .i64 k ∧ sb = .bool (someB R H j k) ∧ Aft w5 wr)
    case atStart => exact ⟨0, by omega, rfl, by rw [HB0.out], g9⟩
    case round =>
      obtain ⟨k, hk, rfl, rfl, hbe⟩ := hrel
      have HK := hid hk
      have HBE := hid hbe
      by_cases hlt : k < H.length
      · have HLT := hid hlt
        have hnb := HSS.out k hlt
        obtain ⟨b2, o2, rfl, _, cc⟩ := TyP.ints_at (HU2.out.below hbe.below) k (by rw [ints_length]; exact hlt)
        rw [nums_at hlt] at cc
        have HCC := hid (A1.out H[k] wr hbe)
        have hkl : (k : Int) < (H.length : Int) := by omega
        have hkb : k ≤ 9223372036854775806 := by have := HL2.out; omega
        clear hk
        generalize H[k] = c at *
        have HNB := hid hnb
        clear hnb
        cases hcb : someB R H j k with
        | true =>
          rw [hcb, Bool.true_or] at HNB
          clear hcb hbe
          go_wp2
          go_roundg (gk - 1)
          case measure => have := HK.out; have := HLT.out; omega
          case rel => exact ⟨k + 1, by have := HK.out; have := HLT.out; omega, by go_num, by rw [HNB.out], HBE.out⟩
        | false =>
          rw [hcb, Bool.false_or] at HNB
          clear hcb hbe
          go_wp2_with fail
          refine HCC.out.mono ?_
          rintro e wq ⟨rfl, hb⟩
          have HBQ := hid (HBE.out.go hb)
          clear hb HCC
          go_wp2
          go_roundg (gk - 1)
          case measure => have := HK.out; have := HLT.out; omega
          case rel => exact ⟨k + 1, by have := HK.out; have := HLT.out; omega, by go_num, by rw [HNB.out], HBQ.out⟩
      · obtain rfl : k = H.length := by omega
        rw [← HSA.out]
        have HQ := hid (A1.out j wr hbe)
        clear hk A1
        generalize decide (j ∈ R) = rb at *
        have hrr : (rb == rb) = true := by simp
        go_wp2_with fail
        refine HQ.out.mono ?_
        rintro e wq ⟨rfl, hb⟩
        have HE := hid ((h5.trans (HBE.out.go hb)).out HBW.out)
        clear hb HQ
        go_wp2
        go_ret
        exact ⟨rfl, HE.out⟩
end Go.Proofs.YtimnjkdhcnhkoaaDoor.FyB
