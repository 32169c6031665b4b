/- Walk over fescuelaw06.ShapeAsks. -/
import Derived.Test.YtaegidmodenomaaDoorShRM
import Derived.Test.YtaegidmodenomaaDoorShRJ
import Derived.Test.YtaegidmodenomaaDoorShTP
import Derived.Test.YtaegidmodenomaaDoorShR
import Derived.Test.YtaegidmodenomaaDoorShOpen
namespace Go.Proofs.YtaegidmodenomaaDoor.ShAW
open Go.RowKit Go.Lib RwO SetP IntO TyM TyP TyB TyC ShM ShP ShA ShB ShC ShE ShI ShJ ShK ShL ShR ShOpen ShRS ShRG ShRI ShRJ ShTB ShTP Aft

/-- a program in a block of its own -/
theorem kept_new (w : World) (a b : Value) : ∃ W2, W2 = w.alloc (.cells #[a, b] 29) ∧ Aft w W2 ∧ W2.heap[w.heap.size]? = some (.cells #[a, b] 29 (0, 0)) :=
  ⟨_, rfl, (Aft.refl w).alloc _, alloc_new w _⟩
theorem i64_wf {n : Int} (h : (Lit.int .i64 n).wf = true) : -9223372036854775808 ≤ n ∧ n ≤ 9223372036854775807 := by
  simpa [Lit.wf, IntKind.min, IntKind.max, IntKind.signed, IntKind.bits] using h

set_option maxRecDepth 100000 in
set_option maxHeartbeats 16000000 in
theorem walk (W : World) (v : Value) (p : Px) (S : PrAt W v p) (_ : ∀ y ∈ p.types, TyOk y) (z : ∀ y ∈ p.funcs, FxOk y) (ln : Lens p) (f : Int) (_ : (Lit.int .i64 f).wf = true) (r : Int) (hrw : (Lit.int .i64 r).wf = true) (q : Int) (_ : (Lit.int .i64 q).wf = true) (ht : Tab W) :
    Calls Tryd.prog 5 #[v, .int .i64 f, .int .i64 r, .int .i64 q] W fun e W' => e = .returned (.bool true) ∧ Below W.heap.size W W' := by
  have hr := i64_wf hrw
  have hok : POk p := fun f hf b hb => ⟨(z f hf b hb).1, (z f hf b hb).2⟩
  have HOK := hid hok
  have HR := hid hr
  have hp0 := S
  obtain ⟨vt, vf, rfl, hvt, hvf⟩ := S
  obtain ⟨W0, hW0⟩ : ∃ W0, W0 = W.alloc (.cells #[vt, vf] 29) := ⟨_, rfl⟩
  have hbW : Below W.heap.size W W0 := by rw [hW0]; exact alloc_below _ _
  have k1 : W0.heap[W.heap.size]? = some (.cells #[vt, vf] 29 (0, 0)) := by rw [hW0]; exact alloc_new _ _
  have HP := hid (hp0.below hbW)
  have HT := hid (ht.on hbW)
  have HG := hid (great_calls p _ W0 HP.out ln)
  obtain ⟨ta, tc, rfl⟩ := hvt.slice
  obtain ⟨fa, fc, rfl, _⟩ := hvf.slice
  have l0 : ∀ w', Aft W0 w' → w'.cell? ⟨W.heap.size, 0, none⟩ = some (.slice ta p.types.length tc) := later_cells k1 0 _ rfl
  have l1 : ∀ w', Aft W0 w' → w'.cell? ⟨W.heap.size, 1, none⟩ = some (.slice fa p.funcs.length fc) := later_cells k1 1 _ rfl
  have HBW := hid hbW
  have HW := hid hW0
  have h0 := Aft.refl W0
  clear hvt hvf hp0 hbW hW0 k1 z ln ht hok hr hrw
  generalize p.types.length = n1 at *
  generalize p.funcs.length = n2 at *
  go_enter Tryd.func5, Tryd.ntmps5
  go_wp2_with fail
  rw [← HW.out]
  refine HG.out.mono ?_
  rintro e w1 ⟨gb, rfl, hsmall, hb1⟩
  have h1 := h0.go hb1
  clear HG hb1
  cases gb with
  | true =>
    clear hsmall
    go_wp2
    go_ret
    exact ⟨rfl, h1.out HBW.out⟩
  | false =>
  have hs := hsmall rfl
  have HS := hid hs
  clear hsmall hs
  have HTW := hid (twinRef_calls p _ w1 (HP.out.below h1.below) (ShTP.Small.fine HS.out))
  go_wp2_with fail
  refine HTW.out.mono ?_
  rintro e w2 ⟨u, rfl, hown, hb2⟩
  have h2 := h1.go hb2
  have hpu := hown.at (by have := HS.out.types; omega) (fun x hx => by have := HS.out.parts x hx; omega)
  obtain ⟨ut, uf, rfl, hut, huf⟩ := hpu
  have hpu : PrAt w2 (.agg #[ut, uf]) p := ⟨_, _, rfl, hut, huf⟩
  obtain ⟨uta, utc, rfl⟩ := hut.slice
  obtain ⟨ufa, ufc, rfl, _⟩ := huf.slice
  obtain ⟨W2, hW2, ha2, k2⟩ := kept_new w2 (.slice uta p.types.length utc) (.slice ufa p.funcs.length ufc)
  have HPU := hid (hpu.below ha2.below)
  have h3 := h2.trans ha2
  have hw2 : Aft W2 W2 := Aft.refl W2
  have m0 : ∀ w', Aft W2 w' → w'.cell? ⟨w2.heap.size, 0, none⟩ = some (.slice uta p.types.length utc) := later_cells k2 0 _ rfl
  have m1 : ∀ w', Aft W2 w' → w'.cell? ⟨w2.heap.size, 1, none⟩ = some (.slice ufa p.funcs.length ufc) := later_cells k2 1 _ rfl
  clear hb2 hown hut huf hpu HTW k2 ha2
  generalize p.types.length = n3 at *
  generalize p.funcs.length = n4 at *
  have HW2 := hid hW2
  clear hW2
  go_upto_region 4 with fail
  rw [← HW2.out]
  clear h2
  have C1 := hid (regsP_calls p f _ W2 HPU.out (HT.out.on h3.below) HS.out HOK.out)
  have C2 := hid (fun wx (h : Aft W0 wx) => regsR_calls p f _ wx (HP.out.below h.below) HS.out HOK.out)
  have C3 := hid (fun wx (h : Aft W2 wx) => place_calls p f r _ wx (HPU.out.below h.below) (HT.out.on (h3.trans h).below) HS.out HOK.out HR.out)
  have C4 := hid (fun wx (h : Aft W0 wx) => placeR_calls p f r _ wx (HP.out.below h.below) HS.out HOK.out)
  have C5 := hid (fun wx (h : Aft W2 wx) => reg_calls p f r q _ wx (HPU.out.below h.below) (HT.out.on (h3.trans h).below) HS.out HOK.out)
  have C6 := hid (fun wx (h : Aft W0 wx) => regR_calls p f r q _ wx (HP.out.below h.below) HS.out HOK.out)
  have C7 := hid (fun wx (h : Aft W2 wx) => sameP_calls _ _ p p wx (HPU.out.below h.below) (HP.out.below (h3.trans h).below))
  rw [decide_eq_true rfl] at C7
  generalize (if findP p f = 0 then (cntP p f : Int) else 0) = x1 at *
  generalize findP p f = x2 at *
  generalize placeB p f r = x3 at *
  generalize placeI p f r = x4 at *
  generalize placeE p f r = x5 at *
  generalize regN p f r q = x6 at *
  generalize regE p f r q = x7 at *
  have e1 : (x1 == x1) = true := by simp
  have e2 : (x2 == x2) = true := by simp
  have e3 : (x3 == x3) = true := by simp
  have e4 : (x4 == x4) = true := by simp
  have e5 : (x5 == x5) = true := by simp
  have e6 : (x6 == x6) = true := by simp
  have e7 : (x7 == x7) = true := by simp
  clear HS HOK HR HP HPU HT HW2
  go_wp2_with fail
  refine C1.out.mono ?_
  rintro e w3 ⟨rfl, hb3⟩
  have a3 := hw2.go hb3
  have b3 := h3.trans a3
  have D2 := hid (C2.out w3 b3)
  clear hb3 C1 C2
  go_wp2_with fail
  refine D2.out.mono ?_
  rintro e w4 ⟨rfl, hb4⟩
  have a4 := a3.go hb4
  have b4 := h3.trans a4
  have D3 := hid (C3.out w4 a4)
  clear hb4 D2 C3
  go_wp2_with fail
  refine D3.out.mono ?_
  rintro e w5 ⟨rfl, hb5⟩
  have a5 := a4.go hb5
  have b5 := h3.trans a5
  have D4 := hid (C4.out w5 b5)
  clear hb5 D3 C4
  go_wp2_with fail
  refine D4.out.mono ?_
  rintro e w6 ⟨rfl, hb6⟩
  have a6 := a5.go hb6
  have b6 := h3.trans a6
  have D5 := hid (C5.out w6 a6)
  clear hb6 D4 C5
  go_wp2_with fail
  refine D5.out.mono ?_
  rintro e w7 ⟨rfl, hb7⟩
  have a7 := a6.go hb7
  have b7 := h3.trans a7
  have D6 := hid (C6.out w7 b7)
  clear hb7 D5 C6
  go_wp2_with fail
  refine D6.out.mono ?_
  rintro e w8 ⟨rfl, hb8⟩
  have a8 := a7.go hb8
  have b8 := h3.trans a8
  have D7 := hid (C7.out w8 a8)
  clear hb8 D6 C7
  go_wp2_with fail
  refine D7.out.mono ?_
  rintro e w9 ⟨rfl, hb9⟩
  have b9 := b8.go hb9
  clear hb9 D7
  go_wp2
  go_ret
  exact ⟨rfl, b9.out HBW.out⟩
end Go.Proofs.YtaegidmodenomaaDoor.ShAW
