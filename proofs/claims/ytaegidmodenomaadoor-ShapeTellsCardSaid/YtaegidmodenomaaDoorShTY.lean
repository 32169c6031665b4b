/- Walk over fescuelaw06.ShapeTells. -/
import Derived.Test.YtaegidmodenomaaDoorShRM
import Derived.Test.YtaegidmodenomaaDoorShRV
import Derived.Test.YtaegidmodenomaaDoorShTP
import Derived.Test.YtaegidmodenomaaDoorShTV
import Derived.Test.YtaegidmodenomaaDoorShR
import Derived.Test.YtaegidmodenomaaDoorShOpen
namespace Go.Proofs.YtaegidmodenomaaDoor.ShTY
open Go.RowKit Go.Lib RwO SetP IntO TyM TyP TyB TyC ShM ShP ShA ShB ShC ShE ShI ShJ ShK ShL ShR ShOpen ShRS ShRG ShRI ShRJ ShTB ShTP ShTW ShTS Aft

/-- a program in a block of its own -/
theorem kept_new (w : World) (a b : Value) : ∃ W2, W2 = w.alloc (.cells #[a, b] 29) ∧ Aft w W2 ∧ W2.heap[w.heap.size]? = some (.cells #[a, b] 29 (0, 0)) ∧ w.heap.size < W2.heap.size :=
  ⟨_, rfl, (Aft.refl w).alloc _, alloc_new w _, by simp⟩

set_option maxRecDepth 100000 in
set_option maxHeartbeats 16000000 in
theorem walk (W : World) (v : Value) (p : Px) (S : PrAt W v p) (_ : ∀ y ∈ p.types, TyOk y) (z : ∀ y ∈ p.funcs, FxOk y) (ln : Lens p) (vo : Value) (o : Px) (So : PrAt W vo o) (_ : ∀ y ∈ o.types, TyOk y) (_ : ∀ y ∈ o.funcs, FxOk y) (lno : Lens o) (ht : Tab W) :
    Calls Tryd.prog 4 #[v, vo] W fun e W' => e = .returned (.bool true) ∧ Below W.heap.size W W' := by
  have hok : POk p := fun f hf b hb => ⟨(z f hf b hb).1, (z f hf b hb).2⟩
  have HOK := hid hok
  have hp0 := S
  have ho0 := So
  obtain ⟨vt, vf, rfl, hvt, hvf⟩ := S
  obtain ⟨ot, of, rfl, hot, hof⟩ := So
  obtain ⟨W0, hW0⟩ : ∃ W0, W0 = (W.alloc (.cells #[vt, vf] 29)).alloc (.cells #[ot, of] 29) := ⟨_, rfl⟩
  have hbW : Below W.heap.size W W0 := by rw [hW0]; exact ShD.alloc2 _ _ _
  have k1 : W0.heap[W.heap.size]? = some (.cells #[vt, vf] 29 (0, 0)) := by rw [hW0]; exact alloc_old (alloc_new _ _) _
  have k2 : W0.heap[W.heap.size + 1]? = some (.cells #[ot, of] 29 (0, 0)) := by rw [hW0]; exact alloc_at _ _ _ (World.size_alloc _ _)
  have HP := hid (hp0.below hbW)
  have HO := hid (ho0.below hbW)
  have HT := hid (ht.on hbW)
  have HG := hid (great_calls p _ W0 HP.out ln)
  have HG2 := hid (fun wx (h : Aft W0 wx) => great_calls o _ wx (HO.out.below h.below) lno)
  obtain ⟨ta, tc, rfl⟩ := hvt.slice
  obtain ⟨fa, fc, rfl, _⟩ := hvf.slice
  obtain ⟨ota, otc, rfl⟩ := hot.slice
  obtain ⟨ofa, ofc, rfl, _⟩ := hof.slice
  have l0 : ∀ w', Aft W0 w' → w'.cell? ⟨W.heap.size, 0, none⟩ = some (.slice ta p.types.length tc) := later_cells k1 0 _ rfl
  have l1 : ∀ w', Aft W0 w' → w'.cell? ⟨W.heap.size, 1, none⟩ = some (.slice fa p.funcs.length fc) := later_cells k1 1 _ rfl
  have q0 : ∀ w', Aft W0 w' → w'.cell? ⟨W.heap.size + 1, 0, none⟩ = some (.slice ota o.types.length otc) := later_cells k2 0 _ rfl
  have q1 : ∀ w', Aft W0 w' → w'.cell? ⟨W.heap.size + 1, 1, none⟩ = some (.slice ofa o.funcs.length ofc) := later_cells k2 1 _ rfl
  have HBW := hid hbW
  have HW := hid hW0
  have h0 := Aft.refl W0
  clear hvt hvf hp0 hot hof ho0 hbW hW0 k1 k2 z ln lno ht hok
  generalize p.types.length = n1 at *
  generalize p.funcs.length = n2 at *
  generalize o.types.length = n5 at *
  generalize o.funcs.length = n6 at *
  go_enter Tryd.func4, Tryd.ntmps4
  go_wp2_with fail
  rw [← HW.out]
  refine HG.out.mono ?_
  rintro e w1 ⟨gb, rfl, hsmall, hb1⟩
  have h1 := h0.go hb1
  clear HG hb1
  cases gb with
  | true =>
    clear hsmall
    go_wp2
    go_ret
    exact ⟨rfl, h1.out HBW.out⟩
  | false =>
  have HS := hid (hsmall rfl)
  have HG3 := hid (HG2.out w1 h1)
  clear hsmall HG2
  go_wp2_with fail
  refine HG3.out.mono ?_
  rintro e w1b ⟨gb2, rfl, hsmall2, hb1b⟩
  have h1b := h1.go hb1b
  clear HG3 hb1b hsmall2
  cases gb2 with
  | true =>
    go_wp2
    go_ret
    exact ⟨rfl, h1b.out HBW.out⟩
  | false =>
  have HTW := hid (twinRef_calls p _ w1b (HP.out.below h1b.below) (ShTP.Small.fine HS.out))
  go_wp2_with fail
  refine HTW.out.mono ?_
  rintro e w2 ⟨u, rfl, hown, hb2⟩
  have h2 := h1b.go hb2
  have hpu := hown.at (by have := HS.out.types; omega) (fun x hx => by have := HS.out.parts x hx; omega)
  obtain ⟨ut, uf, rfl, hut, huf⟩ := hpu
  have hpu : PrAt w2 (.agg #[ut, uf]) p := ⟨_, _, rfl, hut, huf⟩
  obtain ⟨uta, utc, rfl⟩ := hut.slice
  obtain ⟨ufa, ufc, rfl, _⟩ := huf.slice
  obtain ⟨W2, hW2, ha2, k2, hs2⟩ := kept_new w2 (.slice uta p.types.length utc) (.slice ufa p.funcs.length ufc)
  have HPU := hid (hpu.below ha2.below)
  have h3 := h2.trans ha2
  have hw2 : Aft W2 W2 := Aft.refl W2
  have m0 : ∀ w', Aft W2 w' → w'.cell? ⟨w2.heap.size, 0, none⟩ = some (.slice uta p.types.length utc) := later_cells k2 0 _ rfl
  have m1 : ∀ w', Aft W2 w' → w'.cell? ⟨w2.heap.size, 1, none⟩ = some (.slice ufa p.funcs.length ufc) := later_cells k2 1 _ rfl
  clear hb2 hown hut huf hpu HTW k2 ha2
  have HTC := hid (twinC_calls p _ W2 HPU.out (ShTP.Small.fine HS.out))
  generalize p.types.length = n3 at *
  generalize p.funcs.length = n4 at *
  have HW2 := hid hW2
  clear hW2
  go_upto_region 4 with fail
  rw [← HW2.out]
  clear h2
  go_wp2_with fail
  refine HTC.out.mono ?_
  rintro e w3 ⟨xv, rfl, hox, hb3⟩
  have a3 := hw2.go hb3
  have HB3 := hid hb3
  have hpx := hox.at (by have := HS.out.types; omega) (fun x hx => by have := HS.out.parts x hx; omega)
  obtain ⟨xt, xf, rfl, hxt, hxf⟩ := hpx
  have hpx : PrAt w3 (.agg #[xt, xf]) p := ⟨_, _, rfl, hxt, hxf⟩
  obtain ⟨xta, xtc, rfl⟩ := hxt.slice
  obtain ⟨xfa, xfc, rfl, _⟩ := hxf.slice
  obtain ⟨W3, hW3, ha3, k3, hs3⟩ := kept_new w3 (.slice xta p.types.length xtc) (.slice xfa p.funcs.length xfc)
  have HOX := hid (hox.below ha3.below)
  have HPX := hid (hpx.below ha3.below)
  have h4 := a3.trans ha3
  have h5 := h3.trans h4
  have hw3 : Aft W3 W3 := Aft.refl W3
  have x0 : ∀ w', Aft W3 w' → w'.cell? ⟨w3.heap.size, 0, none⟩ = some (.slice xta p.types.length xtc) := later_cells k3 0 _ rfl
  have x1 : ∀ w', Aft W3 w' → w'.cell? ⟨w3.heap.size, 1, none⟩ = some (.slice xfa p.funcs.length xfc) := later_cells k3 1 _ rfl
  have e4 : Below W2.heap.size W2 W3 := h4
  clear hb3 hox hpx hxt hxf HTC k3 ha3 HB3
  generalize p.types.length = n7 at *
  generalize p.funcs.length = n8 at *
  have HW3 := hid hW3
  clear hW3
  go_upto_region 5 with fail
  rw [← HW3.out]
  have hd := hw3.drew
  have l0' : ∀ w', Aft W3 w' → w'.cell? ⟨W.heap.size, 0, none⟩ = some (.slice ta n1 tc) := fun w' h => l0 w' (h5.trans h)
  have l1' : ∀ w', Aft W3 w' → w'.cell? ⟨W.heap.size, 1, none⟩ = some (.slice fa n2 fc) := fun w' h => l1 w' (h5.trans h)
  have q0' : ∀ w', Aft W3 w' → w'.cell? ⟨W.heap.size + 1, 0, none⟩ = some (.slice ota n5 otc) := fun w' h => q0 w' (h5.trans h)
  have q1' : ∀ w', Aft W3 w' → w'.cell? ⟨W.heap.size + 1, 1, none⟩ = some (.slice ofa n6 ofc) := fun w' h => q1 w' (h5.trans h)
  have m0' : ∀ w', Aft W3 w' → w'.cell? ⟨w2.heap.size, 0, none⟩ = some (.slice uta n3 utc) := fun w' h => m0 w' (h4.trans h)
  have m1' : ∀ w', Aft W3 w' → w'.cell? ⟨w2.heap.size, 1, none⟩ = some (.slice ufa n4 ufc) := fun w' h => m1 w' (h4.trans h)
  have L0 := hid l0
  have L1 := hid l1
  have M0 := hid m0
  have M1 := hid m1
  have C1 := hid (fun wx (h : Aft W3 wx) => ShI.check_calls p _ wx (HPU.out.below (h4.trans h).below) (HT.out.on (h5.trans h).below) HS.out HOK.out)
  have C2 := hid (fun wx (h : Aft W3 wx) => checkP_calls p _ wx (HP.out.below (h5.trans h).below) HS.out HOK.out)
  have C3 := hid (fun wx (h : Aft W3 wx) => ShD.same_calls _ _ p o wx (HPU.out.below (h4.trans h).below) (HO.out.below (h5.trans h).below))
  have C4 := hid (fun wx (h : Aft W3 wx) => sameP_calls _ _ p o wx (HP.out.below (h5.trans h).below) (HO.out.below (h5.trans h).below))
  have C5 := hid (fun wx (h : Aft W3 wx) => ShD.same_calls _ _ p p wx (HPU.out.below (h4.trans h).below) (HP.out.below (h5.trans h).below))
  have C6 := hid (fun wx (h : Aft W3 wx) => sameP_calls _ _ p p wx (HPX.out.below h.below) (HP.out.below (h5.trans h).below))
  have C7 := hid (fun wx (h : Below W2.heap.size W2 wx) => sameP_calls _ _ p p wx (HPU.out.below h) (HP.out.below (h3.trans h).below))
  have CS := hid (fun wx (h : Aft W3 wx) => spoil_calls W2.heap.size p _ wx (HOX.out.below h.below |> fun h => h.base (by have := hw2; exact Nat.le_refl _)) (by have := e4.size; have := h.size; omega))
  rw [decide_eq_true rfl] at C5 C6 C7
  generalize decide (p = o) = po at *
  generalize chkP p = ck at *
  have g1 : (ck == ck) = true := by simp
  have g2 : (po == po) = true := by simp
  have HH3 := hid h3
  have HE4 := hid e4
  clear l0 l1 q0 q1 m0 m1 hw2 h1 h1b h0 h3 h4 h5 HP HO HT HS HOK HPU HPX HOX HW2 HW3 hs2 hs3 e4
  go_region_held3 (fun w' => Aft W3 w')
    (first | exact (((((hd.go hb1).go hb2).go hb3).go hb4).go hb5).go hb6 | exact ((((hd.go hb1).go hb2).go hb3).go hb4).go hb5 | exact (((hd.go hb1).go hb2).go hb3).go hb4 | exact ((hd.go hb1).go hb2).go hb3 | exact (hd.go hb1).go hb2 | exact hd.go hb1 | exact hd)
    (first
      | (go_at_call 14; (with_reducible refine (C1.out _ hd).mono ?_); rintro e a1 ⟨rfl, hb1⟩)
      | (go_at_call 18; (with_reducible refine (C2.out a1 (hd.go hb1)).mono ?_); rintro e a2 ⟨rfl, hb2⟩)
      | (go_at_call 19; (with_reducible refine (C3.out a2 ((hd.go hb1).go hb2)).mono ?_); rintro e a3 ⟨rfl, hb3⟩)
      | (go_at_call 20; (with_reducible refine (C4.out a3 (((hd.go hb1).go hb2).go hb3)).mono ?_); rintro e a4 ⟨rfl, hb4⟩)
      | (go_at_call 19; (with_reducible refine (C5.out a4 ((((hd.go hb1).go hb2).go hb3).go hb4)).mono ?_); rintro e a5 ⟨rfl, hb5⟩)
      | (go_at_call 20; (with_reducible refine (C6.out a5 (((((hd.go hb1).go hb2).go hb3).go hb4).go hb5)).mono ?_); rintro e a6 ⟨rfl, hb6⟩))
  have h6 := (((((hd.go hb1).go hb2).go hb3).go hb4).go hb5).go hb6
  have HCS := hid (CS.out a6 h6)
  have HB6 : Hid (Below W2.heap.size W2 a6) := HE4.out.trans (h6.below.mono HE4.out.size)
  clear hb1 hb2 hb3 hb4 hb5 hb6 hd C1 C2 C3 C4 C5 C6 CS
  go_wp2_with fail
  refine HCS.out.mono ?_
  rintro e a7 ⟨rfl, hb7⟩
  have hb8 : Below W2.heap.size W2 a7 := HB6.out.trans hb7
  have hA7 : Aft W2 a7 := hb8
  have hA0 : Aft W0 a7 := HH3.out.trans hA7
  have l0 := L0.out a7 hA0
  have l1 := L1.out a7 hA0
  have m0 := M0.out a7 hA7
  have m1 := M1.out a7 hA7
  have HC7 := hid (C7.out a7 hb8)
  clear hb7 hb8 hA7 HCS h6 l0' l1' m0' m1' q0' q1' x0 x1
  go_wp2_with fail
  refine HC7.out.mono ?_
  rintro e a8 ⟨rfl, hb8⟩
  have hA8 := hA0.go hb8
  clear hb8 HC7
  go_wp2
  go_ret
  exact ⟨rfl, hA8.out HBW.out⟩
end Go.Proofs.YtaegidmodenomaaDoor.ShTY
