/- Walk over the law: a program's text is the document's. -/
import Derived.Test.YtbebficgcemkoaaGreatDoorZWvW
import Derived.Test.YtbebficgcemkoaaGreatDoorZWkTab
import Derived.Test.YtbebficgcemkoaaGreatDoorZShTab
import Derived.Test.YtbebficgcemkoaaGreatDoorZShTP
import Derived.Test.YtbebficgcemkoaaGreatDoorZShRV
import Derived.Test.YtbebficgcemkoaaGreatDoorZShSz
namespace Go.Proofs.YtbebficgcemkoaaGreatDoor.WvT
open Go.RowKit Go.Lib TyM TyP TyB ShM ShP ShI ShR LxM LxP LxK LxJ LxN RwO RdM RdN RdV NumP WrM WrI WrP WrC WrT WkJ WkF WkB WkW WvW ShOpen Aft

theorem pok_of {p : Px} (z : ∀ y ∈ p.funcs, FxOk y) : POk p := fun f hf b hb => ⟨(z f hf b hb).1, fun y hy => ((z f hf b hb).2 y hy).1⟩
theorem n64_of {p : Px} (z : ∀ y ∈ p.funcs, FxOk y) : N64 p := fun f hf b hb y hy => ((z f hf b hb).2 y hy).2
theorem prq_agg {w : World} {v : Value} {q : Px} (h : PrAt w v q) : ∃ ta tn tc fa fn fc, v = .agg #[.slice ta tn tc, .slice fa fn fc] := by
 obtain ⟨vt, vf, rfl, h1, h2⟩ := h
 obtain ⟨ta, tc, rfl⟩ := h1.slice
 obtain ⟨fa, fc, rfl, _⟩ := RowAt.slice h2
 exact ⟨_, _, _, _, _, _, rfl⟩
theorem toList_self (s : ByteArray) : (s.toList == s.toList) = true := by simp
theorem same_self (u v : Value) (p : Px) (w : World) (hp : PrAt w u p) (hq : PrAt w v p) : Calls Tryz.prog 16 #[u, v] w (BoolR true w) := by
 have h := ShRJ.sameP_calls u v p p w hp hq
 rwa [decide_eq_true (show p = p from rfl)] at h
set_option maxRecDepth 100000 in
set_option maxHeartbeats 8000000 in
theorem walk (W : World) (v : Value) (p : Px) (S : PrAt W v p) (_ : ∀ y ∈ p.types, TyOk y) (z : ∀ y ∈ p.funcs, FxOk y) (ln : Lens p) (hk : LxK.Tab W) (htab : ShA.Tab W) (ht : NumL.Tab W) (ho : TabW W) :
  Calls Tryz.prog 4 #[v] W fun e W' => e = .returned (.bool true) ∧ Below W.heap.size W W' := by
 have hok := pok_of z
 have hn := n64_of z
 have HGR := hid (fun wx (h : Aft W wx) => ShR.great_calls p v 1100 wx (S.below h) ln (by decide) (by decide))
 have HTW := hid (fun (hs : ShP.Small p) wx (h : Aft W wx) => ShTP.twinRef_calls p v wx (S.below h) (ShTP.Small.fine hs))
 have HWR := hid (fun (hs : ShP.Small p) u wx (h : Aft W wx) (hp : PrAt wx u p) => write_calls p u wx hp hs hok hn (hk.on h) (htab.on h) (ht.on h) (ho.on h))
 have HWV := hid (fun (hs : ShP.Small p) wx (h : Aft W wx) => writeR_calls p v wx (S.below h) hs hok hn)
 have HSM := hid (fun u wx (h : Aft W wx) (hp : PrAt wx u p) => same_self u v p wx hp (S.below h))
 have HAT := hid (fun (hs : ShP.Small p) B wx u (hp : OwnPr B wx u p) => hp.at (by have := hs.types; omega) (fun x hx => by have := hs.parts x hx; omega))
 obtain ⟨ta, tn, tc, fa, fn, fc, rfl⟩ := prq_agg S
 obtain ⟨w1, hw1⟩ : ∃ X, X = W.alloc (.cells #[.slice ta tn tc, .slice fa fn fc] 28) := ⟨_, rfl⟩
 have k0 : w1.heap[W.heap.size]? = some (.cells #[.slice ta tn tc, .slice fa fn fc] 28 (0, 0)) := by rw [hw1]; exact heap_alloc_new _ _
 have h1 : Aft W w1 := by rw [hw1]; exact (Aft.refl W).alloc _
 have HW1 := hid hw1
 have l0 := later (WkT.cell_at k0 0 _ rfl)
 have l1 := later (WkT.cell_at k0 1 _ rfl)
 simp only [List.getElem_toArray, List.getElem_cons_zero, List.getElem_cons_succ] at l0 l1
 have r1 := Aft.refl w1
 clear hw1 k0 ht htab ho hk hok hn S z ln
 unfold TextR at HWR HWV
 unfold BoolR at HSM
 generalize writeO p = wo at *
 obtain ⟨we, wt⟩ := wo
 simp only at *
 go_enter Tryz.func4, Tryz.ntmps4
 go_wp2_with fail
 rw [← HW1.out]
 go_wp2_with fail
 refine (HGR.out w1 h1).mono ?_
 rintro e w3 ⟨g, rfl, hg, hb3⟩
 have h3 := h1.go hb3
 have r3 := r1.go hb3
 have HG := hid hg
 clear HGR hb3 hg HW1
 cases g with
 | true =>
  clear HWR HWV HSM HG HTW HAT
  go_wp2
  go_ret
  exact ⟨rfl, h3⟩
 | false =>
  have hs := HG.out rfl
  have HT := hid (HTW.out hs w3 h3)
  have HW := hid (HWR.out hs)
  have HV := hid (HWV.out hs)
  have HA := hid (HAT.out hs)
  clear HTW HWR HWV HG hs HAT
  go_wp2_with fail
  refine HT.out.mono ?_
  rintro e w4 ⟨u, rfl, hou, hb4⟩
  have hpu := HA.out _ _ _ hou
  obtain ⟨sa, sn, sc, ga, gn, gc, rfl⟩ := prq_agg hpu
  obtain ⟨w5, hw5⟩ : ∃ X, X = w4.alloc (.cells #[.slice sa sn sc, .slice ga gn gc] 28) := ⟨_, rfl⟩
  have k5 : w5.heap[w4.heap.size]? = some (.cells #[.slice sa sn sc, .slice ga gn gc] 28 (0, 0)) := by rw [hw5]; exact heap_alloc_new _ _
  have h5 : Aft W w5 := by rw [hw5]; exact (h3.go hb4).alloc _
  have q5 : Aft w1 w5 := by rw [hw5]; exact (r3.go hb4).alloc _
  have hp5 : PrAt w5 (.agg #[.slice sa sn sc, .slice ga gn gc]) p := by rw [hw5]; exact hpu.below (LxP.alloc_below _ _)
  have HP5 := hid hp5
  have HW5 := hid hw5
  have m0 := later (WkT.cell_at k5 0 _ rfl)
  have m1 := later (WkT.cell_at k5 1 _ rfl)
  simp only [List.getElem_toArray, List.getElem_cons_zero, List.getElem_cons_succ] at m0 m1
  have r5 := Aft.refl w5
  have HWC := hid (HW.out _ w5 h5 HP5.out)
  clear HT HA HW hou hpu hb4 k5 hp5 hw5
  go_wp2_with fail
  rw [← HW5.out]
  refine HWC.out.mono ?_
  rintro e w6 ⟨rfl, hb6⟩
  have h6 := h5.go hb6
  have q6 := q5.go hb6
  have r6 := r5.go hb6
  have HVC := hid (HV.out w6 h6)
  clear HWC HV hb6 HW5
  generalize mk wt = s at *
  go_wp2_with fail
  refine HVC.out.mono ?_
  rintro e w7 ⟨rfl, hb7⟩
  have h7 := h6.go hb7
  have q7 := q6.go hb7
  have r7 := r6.go hb7
  have HS := hid (HSM.out _ w7 h7 (HP5.out.below r7))
  have hss := toList_self s
  have hee : (we == we) = true := by simp
  clear HVC HSM hb7
  go_wp2_with fail
  refine HS.out.mono ?_
  rintro e w8 ⟨rfl, hb8⟩
  have h8 := h7.go hb8
  clear HS hb8
  go_wp2
  go_ret
  exact ⟨rfl, h8⟩
end Go.Proofs.YtbebficgcemkoaaGreatDoor.WvT
