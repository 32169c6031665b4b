/- Walk over the law: what is written is read as that program. Walk over the law: one text, one program. -/
import Derived.Test.YtbebficgcemkoaaGreatDoorZWkBToWkN
import Derived.Test.YtbebficgcemkoaaGreatDoorZWkTab
import Derived.Test.YtbebficgcemkoaaGreatDoorZRdTab
import Derived.Test.YtbebficgcemkoaaGreatDoorZShD
import Derived.Test.YtbebficgcemkoaaGreatDoorZShSz
namespace Go.Proofs.YtbebficgcemkoaaGreatDoor.WkBW
open Go.RowKit Go.Lib TyM TyP TyB ShM ShP ShI ShR LxM LxP LxK LxJ LxN RdM RdN RdV RcO RcZ NumP WrM WrI WrP WrC WrT WkJ WkF WkB WkW WkN ShOpen Aft

theorem pok_of {p : Px} (z : ∀ y ∈ p.funcs, FxOk y) : POk p := fun f hf b hb => ⟨(z f hf b hb).1, fun y hy => ((z f hf b hb).2 y hy).1⟩
theorem n64_of {p : Px} (z : ∀ y ∈ p.funcs, FxOk y) : N64 p := fun f hf b hb y hy => ((z f hf b hb).2 y hy).2
theorem empty_eq : ((⟨#[]⟩ : ByteArray).toList == (⟨#[]⟩ : ByteArray).toList) = true := toList_self _
set_option maxRecDepth 100000 in
set_option maxHeartbeats 8000000 in
theorem walk (W : World) (v : Value) (p : Px) (S : PrAt W v p) (_ : ∀ y ∈ p.types, TyOk y) (z : ∀ y ∈ p.funcs, FxOk y) (ln : Lens p) (hk : LxK.Tab W) (htab : ShA.Tab W) (hto : TabO W) (ht : NumL.Tab W) (ho : TabW W) :
    Calls Tryz.prog 6 #[v] W fun e W' => e = .returned (.bool true) ∧ Below W.heap.size W W' := by
  have hok := pok_of z
  have hn := n64_of z
  have HGR := hid (fun wx (h : Aft W wx) => ShR.great_calls p v 300 wx (S.below h) ln (by decide) (by decide))
  have HWR := hid (fun (hs : ShP.Small p) wx (h : Aft W wx) => write_calls p v wx (S.below h) hs hok hn (hk.on h) (htab.on h) (ht.on h) (ho.on h))
  have HCK := hid (fun (hs : ShP.Small p) wx (h : Aft W wx) => ShI.check_calls p v wx (S.below h) (htab.on h) hs hok)
  have HRD := hid (fun s wx (h : Aft W wx) => read_calls s wx (hk.on h) (htab.on h) (hto.on h))
  have HSM := hid (fun u wx (h : Aft W wx) (hp : PrAt wx u p) => ShD.same_calls v u p p wx (S.below h) hp)
  rw [decide_eq_true (show p = p from rfl)] at HSM
  have HAL := hid (fun wx (h : Aft W wx) => alive_calls wx (hk.on h) (htab.on h) (hto.on h) (ht.on h) (ho.on h))
  have HYES := hid (fun (h : (writeO p).1 = 0) => write_read h hok hn)
  have HNO := hid (fun (h : (writeO p).1 ≠ 0) => write_no h hok hn)
  obtain ⟨ta, tn, tc, fa, fn, fc, rfl⟩ := pr_agg S
  obtain ⟨w1, hw1⟩ : ∃ X, X = W.alloc (.cells #[.slice ta tn tc, .slice fa fn fc] 28) := ⟨_, rfl⟩
  have k0 : w1.heap[W.heap.size]? = some (.cells #[.slice ta tn tc, .slice fa fn fc] 28 (0, 0)) := by rw [hw1]; exact heap_alloc_new _ _
  have h1 : Aft W w1 := by rw [hw1]; exact (Aft.refl W).alloc _
  have HW1 := hid hw1
  have l0 := later (WkT.cell_at k0 0 _ rfl)
  have l1 := later (WkT.cell_at k0 1 _ rfl)
  simp only [List.getElem_toArray, List.getElem_cons_zero, List.getElem_cons_succ] at l0 l1
  have r1 := Aft.refl w1
  clear hw1 k0 ht htab ho hk hto hok hn S z ln
  unfold TextR at HWR
  unfold ReadO at HRD
  unfold BoolR at HAL HSM
  generalize writeO p = wo at *
  obtain ⟨we, wt⟩ := wo
  simp only at *
  generalize chkP p = ck at *
  go_enter Tryz.func6, Tryz.ntmps6
  go_wp2_with fail
  rw [← HW1.out]
  refine (HAL.out w1 h1).mono ?_
  rintro e w2 ⟨rfl, hb2⟩
  have h2 := h1.go hb2
  have r2 := r1.go hb2
  clear HAL hb2 HW1
  go_wp2_with fail
  refine (HGR.out w2 h2).mono ?_
  rintro e w3 ⟨g, rfl, hg, hb3⟩
  have h3 := h2.go hb3
  have r3 := r2.go hb3
  have HG := hid hg
  clear HGR hb3 hg
  cases g with
  | true =>
    clear HWR HCK HRD HSM HYES HNO HG
    go_wp2
    go_ret
    exact ⟨rfl, h3⟩
  | false =>
    have hs := HG.out rfl
    have HW := hid (HWR.out hs)
    have HC := hid (HCK.out hs)
    clear HWR HCK HG hs
    go_wp2_with fail
    refine (HW.out w3 h3).mono ?_
    rintro e w4 ⟨rfl, hb4⟩
    have h4 := h3.go hb4
    have r4 := r3.go hb4
    clear HW hb4
    by_cases hz : we = 0
    · have HY := hid (HYES.out hz)
      have HR := hid (HRD.out (mk wt) w4 h4)
      rw [unmk, HY.out] at HR
      clear HYES HNO HRD HC HY
      generalize mk wt = s at *
      go_wp2_with fail
      refine HR.out.mono ?_
      rintro e w5 ⟨u, rfl, hp5, hb5⟩
      obtain ⟨ta2, tn2, tc2, fa2, fn2, fc2, rfl⟩ := pr_agg hp5
      have h5 := (h4.go hb5).alloc (.cells #[.slice ta2 tn2 tc2, .slice fa2 fn2 fc2] 28)
      have r5 := (r4.go hb5).alloc (.cells #[.slice ta2 tn2 tc2, .slice fa2 fn2 fc2] 28)
      have HS := hid (HSM.out _ _ h5 (hp5.below (LxP.alloc_below _ _)))
      have H5 := hid h5
      have r5b := r4.go hb5
      clear HR HSM hp5 hb5 h5
      go_wp2_with fail
      refine HS.out.mono ?_
      rintro e w6 ⟨rfl, hb6⟩
      have h6 := H5.out.go hb6
      clear HS hb6
      go_wp2
      go_ret
      exact ⟨rfl, h6⟩
    · obtain ⟨hwt, hwe⟩ := HNO.out hz
      subst hwt
      rw [show mk [] = (⟨#[]⟩ : ByteArray) from rfl]
      have hee := empty_eq
      clear HYES HNO HRD HSM
      by_cases h4e : we = 4
      · clear HC hwe
        go_wp2
        go_ret
        exact ⟨rfl, h4⟩
      · have hwc : we = ck := hwe.resolve_left h4e
        subst hwc
        have HCC := hid (HC.out w4 h4)
        clear HC hwe
        go_wp2_with fail
        refine HCC.out.mono ?_
        rintro e w5 ⟨rfl, hb5⟩
        have h5 := h4.go hb5
        clear HCC hb5
        go_wp2
        go_ret
        exact ⟨rfl, h5⟩
end Go.Proofs.YtbebficgcemkoaaGreatDoor.WkBW
namespace Go.Proofs.YtbebficgcemkoaaGreatDoor.WkAW
open Go.RowKit Go.Lib TyM TyP TyB ShM ShP ShI ShR LxM LxP LxK LxJ LxN RdM RdN RdV RcO RcZ NumP WrM WrI WrP WrC WrT WkJ WkF WkB WkW WkN WkBW ShOpen Aft

/-- two programs have one text where they are one -/
theorem apart {p q : Px} (hp : (writeO p).1 = 0) (hq : (writeO q).1 = 0) (p1 : POk p) (p2 : N64 p) (q1 : POk q) (q2 : N64 q) : ((mk (writeO p).2).toList == (mk (writeO q).2).toList) = decide (p = q) := by
  rw [Lib.toList_data, Lib.toList_data]
  have h1 := write_read hp p1 p2
  have h2 := write_read hq q1 q2
  rw [Bool.eq_iff_iff, beq_iff_eq, decide_eq_true_iff]
  constructor
  · intro h
    have h3 : (writeO p).2 = (writeO q).2 := h
    rw [h3, h2] at h1
    exact (congrArg Prod.snd h1).symm
  · intro h; rw [h]
set_option maxRecDepth 100000 in
set_option maxHeartbeats 16000000 in
theorem walk (W : World) (v : Value) (p : Px) (S : PrAt W v p) (_ : ∀ y ∈ p.types, TyOk y) (z : ∀ y ∈ p.funcs, FxOk y) (ln : Lens p)
    (v2 : Value) (p2 : Px) (S2 : PrAt W v2 p2) (_ : ∀ y ∈ p2.types, TyOk y) (z2 : ∀ y ∈ p2.funcs, FxOk y) (ln2 : Lens p2) (hk : LxK.Tab W) (htab : ShA.Tab W) (hto : TabO W) (ht : NumL.Tab W) (ho : TabW W) :
    Calls Tryz.prog 8 #[v, v2] W fun e W' => e = .returned (.bool true) ∧ Below W.heap.size W W' := by
  have hok := pok_of z
  have hn := n64_of z
  have hok2 := pok_of z2
  have hn2 := n64_of z2
  have HGR := hid (fun wx (h : Aft W wx) => ShR.great_calls p v 300 wx (S.below h) ln (by decide) (by decide))
  have HGR2 := hid (fun wx (h : Aft W wx) => ShR.great_calls p2 v2 300 wx (S2.below h) ln2 (by decide) (by decide))
  have HWR := hid (fun (hs : ShP.Small p) wx (h : Aft W wx) => write_calls p v wx (S.below h) hs hok hn (hk.on h) (htab.on h) (ht.on h) (ho.on h))
  have HWR2 := hid (fun (hs : ShP.Small p2) wx (h : Aft W wx) => write_calls p2 v2 wx (S2.below h) hs hok2 hn2 (hk.on h) (htab.on h) (ht.on h) (ho.on h))
  have HSM := hid (fun wx (h : Aft W wx) => ShD.same_calls v v2 p p2 wx (S.below h) (S2.below h))
  have HAL := hid (fun wx (h : Aft W wx) => alive_calls wx (hk.on h) (htab.on h) (hto.on h) (ht.on h) (ho.on h))
  have HEQ := hid (fun (h1 : (writeO p).1 = 0) (h2 : (writeO p2).1 = 0) => apart h1 h2 hok hn hok2 hn2)
  obtain ⟨ta, tn, tc, fa, fn, fc, rfl⟩ := pr_agg S
  obtain ⟨sa, sn, sc, ga, gn, gc, rfl⟩ := pr_agg S2
  obtain ⟨w1, hw1⟩ : ∃ X, X = (W.alloc (.cells #[.slice ta tn tc, .slice fa fn fc] 28)).alloc (.cells #[.slice sa sn sc, .slice ga gn gc] 28) := ⟨_, rfl⟩
  have ka := heap_alloc_new W (.cells #[.slice ta tn tc, .slice fa fn fc] 28)
  have kb := heap_alloc_new (W.alloc (.cells #[.slice ta tn tc, .slice fa fn fc] 28)) (.cells #[.slice sa sn sc, .slice ga gn gc] 28)
  rw [World.size_alloc] at kb
  have ka2 := ((LxP.alloc_below (W.alloc (.cells #[.slice ta tn tc, .slice fa fn fc] 28)) (.cells #[.slice sa sn sc, .slice ga gn gc] 28)).block _ (by rw [World.size_alloc]; omega)).trans ka
  rw [← hw1] at ka2 kb
  have h1 : Aft W w1 := by rw [hw1]; exact ((Aft.refl W).alloc _).alloc _
  have HW1 := hid hw1
  have l0 := later (WkT.cell_at ka2 0 _ rfl)
  have l1 := later (WkT.cell_at ka2 1 _ rfl)
  have m0 := later (WkT.cell_at kb 0 _ rfl)
  have m1 := later (WkT.cell_at kb 1 _ rfl)
  simp only [List.getElem_toArray, List.getElem_cons_zero, List.getElem_cons_succ] at l0 l1 m0 m1
  have r1 := Aft.refl w1
  clear hw1 ka ka2 kb ht htab ho hk hto hok hn hok2 hn2 S S2 z z2 ln ln2
  unfold TextR at HWR HWR2
  unfold BoolR at HAL HSM
  generalize writeO p = wo at *
  generalize writeO p2 = wq at *
  generalize decide (p = p2) = bs at *
  obtain ⟨we, wt⟩ := wo
  obtain ⟨ve, vt⟩ := wq
  simp only at *
  go_enter Tryz.func8, Tryz.ntmps8
  go_wp2_with fail
  rw [← HW1.out]
  refine (HAL.out w1 h1).mono ?_
  rintro e w2 ⟨rfl, hb2⟩
  have h2 := h1.go hb2
  have r2 := r1.go hb2
  clear HAL hb2 HW1
  go_wp2_with fail
  refine (HGR.out w2 h2).mono ?_
  rintro e w3 ⟨g, rfl, hg, hb3⟩
  have h3 := h2.go hb3
  have r3 := r2.go hb3
  have HG := hid hg
  clear HGR hb3 hg
  cases g with
  | true =>
    clear HWR HSM HG HGR2 HWR2 HEQ
    go_wp2
    go_ret
    exact ⟨rfl, h3⟩
  | false =>
    have hs := HG.out rfl
    have HW := hid (HWR.out hs)
    clear HWR HG hs
    go_wp2_with fail
    refine (HGR2.out w3 h3).mono ?_
    rintro e w4 ⟨g, rfl, hg, hb4⟩
    have h4 := h3.go hb4
    have r4 := r3.go hb4
    have HG := hid hg
    clear HGR2 hb4 hg
    cases g with
    | true =>
      clear HSM HG HWR2 HEQ HW
      go_wp2
      go_ret
      exact ⟨rfl, h4⟩
    | false =>
      have hs := HG.out rfl
      have HW2 := hid (HWR2.out hs)
      clear HWR2 HG hs
      go_wp2_with fail
      refine (HW.out w4 h4).mono ?_
      rintro e w5 ⟨rfl, hb5⟩
      have h5 := h4.go hb5
      have r5 := r4.go hb5
      clear HW hb5
      go_wp2_with fail
      refine (HW2.out w5 h5).mono ?_
      rintro e w6 ⟨rfl, hb6⟩
      have h6 := h5.go hb6
      have r6 := r5.go hb6
      clear HW2 hb6
      by_cases hz : we = 0
      rotate_left
      · clear HSM HEQ
        go_wp2
        go_ret
        exact ⟨rfl, h6⟩
      by_cases hz2 : ve = 0
      rotate_left
      · clear HSM HEQ
        go_wp2
        go_ret
        exact ⟨rfl, h6⟩
      have hq := HEQ.out hz hz2
      have HS := hid (HSM.out w6 h6)
      clear HEQ HSM
      generalize mk wt = x at *
      generalize mk vt = y at *
      go_wp2_with fail
      refine HS.out.mono ?_
      rintro e w7 ⟨rfl, hb7⟩
      have h7 := h6.go hb7
      have hbb : (bs == bs) = true := by simp
      clear HS hb7
      go_wp2
      go_ret
      exact ⟨rfl, h7⟩
end Go.Proofs.YtbebficgcemkoaaGreatDoor.WkAW
