/- Walk over the law: told in one way, again. Walk over the law of the writer's examples. -/
import Derived.Test.YtbebficgcemkoaaGreatDoorZWkBToWkN
import Derived.Test.YtbebficgcemkoaaGreatDoorZWkTab
import Derived.Test.YtbebficgcemkoaaGreatDoorZRdTab
import Derived.Test.YtbebficgcemkoaaGreatDoorZShD
namespace Go.Proofs.YtbebficgcemkoaaGreatDoor.WkCW
open Go.RowKit Go.Lib TyM TyP TyB ShM ShP ShI LxM LxP LxK LxJ LxN RdM RdN RdV RcO RcZ NumP WrM WrI WrP WrC WrT WkJ WkF WkB WkW WkN Aft

theorem un_len (s : ByteArray) : (un s).length = s.size := by unfold un; rw [Array.length_toList]; rfl
theorem same_self (u v : Value) (p : Px) (w : World) (hp : PrAt w u p) (hq : PrAt w v p) : Calls Tryz.prog 20 #[u, v] w (BoolR true w) := by
  have h := ShD.same_calls u v p p w hp hq
  rwa [decide_eq_true (show p = p from rfl)] at h
set_option maxRecDepth 100000 in
set_option maxHeartbeats 8000000 in
theorem walk (s : ByteArray) (hs : s.size ≤ 9223372036854775807) (W : World) (hk : LxK.Tab W) (htab : ShA.Tab W) (hto : TabO W) (ht : NumL.Tab W) (ho : TabW W) :
    Calls Tryz.prog 7 #[.string s] W fun e W' => e = .returned (.bool true) ∧ Below W.heap.size W W' := by
  have HAL := hid (fun wx (h : Aft W wx) => alive_calls wx (hk.on h) (htab.on h) (hto.on h) (ht.on h) (ho.on h))
  have HCN := hid (fun wx (h : Aft W wx) => canon_calls s wx (hk.on h) (htab.on h) (hto.on h) (ht.on h) (ho.on h))
  have HRD := hid (fun z wx (h : Aft W wx) => read_calls z wx (hk.on h) (htab.on h) (hto.on h))
  have HIS := hid (fun (x : ByteArray) (hx : canonO (un x) = (0, un x)) wx (h : Aft W wx) => is_yes x x hx wx (hk.on h) (htab.on h) (hto.on h) (ht.on h) (ho.on h))
  have HSM := hid (fun u v (p : Px) wx (hp : PrAt wx u p) (hq : PrAt wx v p) => same_self u v p wx hp hq)
  have h0 := Aft.refl W
  clear ht htab ho hk hto
  unfold TextR at HCN
  unfold ReadO at HRD
  unfold BoolR at HAL HSM HIS
  by_cases hg : (3000 : Int) < s.size
  · go_enter Tryz.func7, Tryz.ntmps7
    go_wp2_with fail
    refine (HAL.out W h0).mono ?_
    rintro e w2 ⟨rfl, hb2⟩
    have h2 := h0.go hb2
    clear HAL hb2 HCN HRD HIS HSM
    go_wp2
    go_ret
    exact ⟨rfl, h2⟩
  have hlen : (un s).length = s.size := un_len s
  by_cases hz : (readO (un s)).1 = 0
  · obtain ⟨q1, q2⟩ := canon_ok hz (by omega)
    obtain ⟨q3, q4⟩ := canon_read hz (by omega)
    have HR1 := hid (HRD.out s)
    have HR2 := hid (HRD.out (mk (canonO (un s)).2))
    rw [unmk, q3] at HR2
    have HI := hid (HIS.out (mk (canonO (un s)).2) (by rw [unmk]; exact q4))
    have hsz : (mk (canonO (un s)).2).size ≤ s.size + 1 := by rw [WkB.size_mk]; omega
    have HSZ := hid hsz
    rw [q1] at HCN
    clear HRD HIS q1 q2 q3 q4 hsz hlen
    generalize mk (canonO (un s)).2 = x at *
    generalize hro : readO (un s) = ro at *
    obtain ⟨re, rp⟩ := ro
    simp only at *
    subst hz
    clear hro
    go_enter Tryz.func7, Tryz.ntmps7
    go_wp2_with fail
    refine (HAL.out W h0).mono ?_
    rintro e w2 ⟨rfl, hb2⟩
    have h2 := h0.go hb2
    clear HAL hb2
    go_wp2_with fail
    refine (HCN.out w2 h2).mono ?_
    rintro e w3 ⟨rfl, hb3⟩
    have h3 := h2.go hb3
    clear HCN hb3
    go_wp2_with fail
    refine (HR1.out w3 h3).mono ?_
    rintro e w4 ⟨u, rfl, hp4, hb4⟩
    obtain ⟨ta, tn, tc, fa, fn, fc, rfl⟩ := pr_agg hp4
    obtain ⟨w5, hw5⟩ : ∃ X, X = w4.alloc (.cells #[.slice ta tn tc, .slice fa fn fc] 28) := ⟨_, rfl⟩
    have k5 : w5.heap[w4.heap.size]? = some (.cells #[.slice ta tn tc, .slice fa fn fc] 28 (0, 0)) := by rw [hw5]; exact heap_alloc_new _ _
    have h5 : Aft W w5 := by rw [hw5]; exact (h3.go hb4).alloc _
    have hp5 : PrAt w5 (.agg #[.slice ta tn tc, .slice fa fn fc]) rp := by rw [hw5]; exact hp4.below (LxP.alloc_below _ _)
    have HP5 := hid hp5
    have HW5 := hid hw5
    have l0 := later (WkT.cell_at k5 0 _ rfl)
    have l1 := later (WkT.cell_at k5 1 _ rfl)
    simp only [List.getElem_toArray, List.getElem_cons_zero, List.getElem_cons_succ] at l0 l1
    have r5 := Aft.refl w5
    clear HR1 hp4 hb4 k5 hp5 hw5
    go_wp2_with fail
    rw [← HW5.out]
    refine (HR2.out w5 h5).mono ?_
    rintro e w6 ⟨u, rfl, hp6, hb6⟩
    obtain ⟨ta2, tn2, tc2, fa2, fn2, fc2, rfl⟩ := pr_agg hp6
    have h7 := (h5.go hb6).alloc (.cells #[.slice ta2 tn2 tc2, .slice fa2 fn2 fc2] 28)
    have r6 := r5.go hb6
    have r7 := (r5.go hb6).alloc (.cells #[.slice ta2 tn2 tc2, .slice fa2 fn2 fc2] 28)
    have HS := hid (HSM.out _ _ rp _ (HP5.out.below ((r5.go hb6).alloc (.cells #[.slice ta2 tn2 tc2, .slice fa2 fn2 fc2] 28))) (hp6.below (LxP.alloc_below w6 (.cells #[.slice ta2 tn2 tc2, .slice fa2 fn2 fc2] 28))))
    have H7 := hid h7
    clear HR2 HSM hp6 hb6 h7 HW5
    go_wp2_with fail
    refine HS.out.mono ?_
    rintro e w8 ⟨rfl, hb8⟩
    have h8 := H7.out.go hb8
    clear HS hb8
    go_wp2_with fail
    refine (HI.out w8 h8).mono ?_
    rintro e w9 ⟨rfl, hb9⟩
    have h9 := h8.go hb9
    have hsz := HSZ.out
    clear HI hb9
    have hs3 : s.size ≤ 3000 := by omega
    have hw1 : IntKind.i64.wrap ((s.size : Int) + 1) = (s.size : Int) + 1 := IntWalk.i64_in _ (by omega)
    have hle : (x.size : Int) ≤ (s.size : Int) + 1 := by omega
    go_wp2
    go_ret
    exact ⟨rfl, h9⟩
  · have hno := canon_no hz
    rw [hno] at HCN
    have HR1 := hid (HRD.out s)
    rw [show mk [] = (⟨#[]⟩ : ByteArray) from rfl] at HCN
    clear HRD HIS HSM hno hlen
    generalize readO (un s) = ro at *
    obtain ⟨re, rp⟩ := ro
    simp only at *
    have hee := WkN.toList_self ⟨#[]⟩
    go_enter Tryz.func7, Tryz.ntmps7
    go_wp2_with fail
    refine (HAL.out W h0).mono ?_
    rintro e w2 ⟨rfl, hb2⟩
    have h2 := h0.go hb2
    clear HAL hb2
    go_wp2_with fail
    refine (HCN.out w2 h2).mono ?_
    rintro e w3 ⟨rfl, hb3⟩
    have h3 := h2.go hb3
    clear HCN hb3
    go_wp2_with fail
    refine (HR1.out w3 h3).mono ?_
    rintro e w4 ⟨u, rfl, hp4, hb4⟩
    obtain ⟨ta, tn, tc, fa, fn, fc, rfl⟩ := pr_agg hp4
    have h5 := (h3.go hb4).alloc (.cells #[.slice ta tn tc, .slice fa fn fc] 28)
    clear HR1 hp4 hb4
    go_wp2
    go_ret
    exact ⟨rfl, h5⟩
end Go.Proofs.YtbebficgcemkoaaGreatDoor.WkCW
namespace Go.Proofs.YtbebficgcemkoaaGreatDoor.WkNW
open Go.RowKit Go.Lib TyM TyP TyB ShM ShP ShI LxM LxP LxK LxJ LxN RdM RdN RdV RcO RcZ NumP WrM WrI WrP WrC WrT WkJ WkF WkB WkW WkN Aft

theorem write_none : writeO px0 = (60, []) := by decide +kernel
theorem small0 : ShP.Small px0 := ⟨by simp [px0], by simp [px0], by simp [px0], by simp [px0], by simp [px0], by simp [px0]⟩
set_option maxRecDepth 100000 in
set_option maxHeartbeats 4000000 in
theorem walk (W : World) (hk : LxK.Tab W) (htab : ShA.Tab W) (hto : TabO W) (ht : NumL.Tab W) (ho : TabW W) :
    Calls Tryz.prog 3 #[] W fun e W' => e = .returned (.bool true) ∧ Below W.heap.size W W' := by
  have HW := hid (write_calls px0 _ W (pr_zero W) small0 (by intro f hf; simp [px0] at hf) (by intro f hf; simp [px0] at hf) hk htab ht ho)
  rw [write_none] at HW
  unfold TextR at HW
  have HX := hid (fun wx (h : Aft W wx) => canon_calls (mk [120]) wx (hk.on h) (htab.on h) (hto.on h) (ht.on h) (ho.on h))
  rw [show canonO (un (mk [120])) = (70, []) from no_x] at HX
  unfold TextR at HX
  have HA := hid (fun wx (h : Aft W wx) => alive_calls wx (hk.on h) (htab.on h) (hto.on h) (ht.on h) (ho.on h))
  have HI1 := hid (fun wx (h : Aft W wx) => is_yes allS allS facts.2.2 wx (hk.on h) (htab.on h) (hto.on h) (ht.on h) (ho.on h))
  have HI2 := hid (fun wx (h : Aft W wx) => is_yes chap chap facts.2.1 wx (hk.on h) (htab.on h) (hto.on h) (ht.on h) (ho.on h))
  unfold BoolR at HA HI1 HI2
  unfold allS at HI1
  unfold chap at HI2
  have h0 := Aft.refl W
  clear hk htab hto ht ho
  go_enter Tryz.func3, Tryz.ntmps3
  go_wp2_with fail
  refine HW.out.mono ?_
  rintro e w1 ⟨rfl, hb1⟩
  have h1 := h0.go hb1
  clear HW hb1
  go_wp2_with fail
  refine (HX.out w1 h1).mono ?_
  rintro e w2 ⟨rfl, hb2⟩
  have h2 := h1.go hb2
  clear HX hb2
  go_wp2_with fail
  refine (HA.out w2 h2).mono ?_
  rintro e w3 ⟨rfl, hb3⟩
  have h3 := h2.go hb3
  clear HA hb3
  go_wp2_with fail
  refine (HI1.out w3 h3).mono ?_
  rintro e w4 ⟨rfl, hb4⟩
  have h4 := h3.go hb4
  clear HI1 hb4
  go_wp2_with fail
  refine (HI2.out w4 h4).mono ?_
  rintro e w5 ⟨rfl, hb5⟩
  have h5 := h4.go hb5
  clear HI2 hb5
  go_wp2
  go_ret
  exact ⟨rfl, h5⟩
end Go.Proofs.YtbebficgcemkoaaGreatDoor.WkNW
