/- Walks over fescueref08.Write. -/
import Derived.Test.YtbebficgcemkoaaGreatDoorZWvL
import Derived.Test.YtbebficgcemkoaaGreatDoorZWkBToWvK
import Derived.Test.YtbebficgcemkoaaGreatDoorZLxSpToLxV
namespace Go.Proofs.YtbebficgcemkoaaGreatDoor.WvW
open Go.RowKit Go.Lib TyM TyP ShM ShP ShI LxM LxP LxK LxJ LxN RdM RdN RdV NumP WrM WrI WrP WrC WrT WkJ WkF WkB WkW ShJ Aft

theorem has_all {p : Px} (h : chkP p = 0) (hf : FineQ p) : ∀ (k : Nat) (hk : k < p.funcs.length), Has1 p k k p.funcs[k] := fun k hk => by
 have hm := List.getElem_mem hk
 obtain ⟨_, _, _, h4⟩ := chk_zero h
 obtain ⟨_, _, h5, h6, h7⟩ := may_zero (h4 _ hm)
 exact ⟨rfl, hk, List.getElem?_eq_getElem hk, (hf.sig _ hm).1, (hf.sig _ hm).2, h5, h6, h7⟩
set_option maxRecDepth 100000 in
set_option maxHeartbeats 8000000 in
theorem writeR_calls (p : Px) (v : Value) (w : World) (hp : PrAt w v p) (hs : ShP.Small p) (hok : POk p) (hn : N64 p) :
  Calls Tryz.prog 15 #[v] w (TextR (writeO p) w) := by
 have hp0 := hp
 obtain ⟨vt, vf, rfl, htys, hfns⟩ := hp
 obtain ⟨w1, hw1⟩ : ∃ X, X = w.alloc (.cells #[vt, vf] 28) := ⟨_, rfl⟩
 have k0 : w1.heap[w.heap.size]? = some (.cells #[vt, vf] 28 (0, 0)) := by rw [hw1]; exact heap_alloc_new _ _
 have hb1 : Below w.heap.size w w1 := by rw [hw1]; exact LxP.alloc_below _ _
 have HCK := hid (ShRG.checkP_calls p _ w1 (hp0.below hb1) hs hok)
 have HPR := hid (fun (hc : chkP p = 0) wx (hx : Aft w1 wx) => WvL.lines_calls p _ wx (hp0.below (hb1.trans (Below.mono hx hb1.size))) (fine_of hc hok hn) (has_all hc (fine_of hc hok hn)))
 have HFT := hid (fun (hc : chkP p = 0) => prog_fits (prog_ok hc hok hn) (fine_of hc hok hn))
 have HJ := hid (fun u wx (hl : LinesAt wx u (progW p)) (hf : Fits (progW p)) => LxV.joinR_calls u (progW p) wx hl hf)
 have HE : Hid (writeO p = if chkP p = 0 then (jnE (unL (progW p)), jnT (unL (progW p))) else (chkP p, [])) := rfl
 obtain ⟨ta, tc, rfl⟩ := htys.slice
 obtain ⟨fa, fc, rfl, hfl⟩ := RowAt.slice hfns
 have HW1 := hid hw1
 have HB1 := hid hb1
 have hr : Aft w1 w1 := Aft.refl w1
 have l0 := later (WkT.cell_at k0 0 _ rfl)
 have l1 := later (WkT.cell_at k0 1 _ rfl)
 simp only [List.getElem_toArray, List.getElem_cons_zero, List.getElem_cons_succ] at l0 l1
 clear hw1 hb1 k0 htys hfns hp0 hs hok hn
 generalize chkP p = ck at *
 generalize writeO p = wo at *
 go_enter Tryz.func15, Tryz.ntmps15
 go_wp2_with fail
 rw [← HW1.out]
 go_wp2_with fail
 refine HCK.out.mono ?_
 rintro e w2 ⟨rfl, hb2⟩
 have h2 := hr.go hb2
 clear HCK hb2
 by_cases hc : ck = 0
 ·have HE1 := hid (HE.out.trans (if_pos hc))
  have HPC := hid (HPR.out hc w2 h2)
  have HF := hid (HFT.out hc)
  clear HE HPR HFT
  go_wp2_with fail
  refine HPC.out.mono ?_
  rintro e w3 ⟨u, rfl, ⟨r, hol, hrl⟩, hb3⟩
  have h3 := h2.go hb3
  have hla : LinesAt w3 u (progW p) := by
   rw [← hrl]
   exact hol.lines (by have := HF.out.lines; rw [← hrl, List.length_map] at this; omega) (fun x hx => by have := HF.out.words x.1 (by rw [← hrl]; exact List.mem_map_of_mem hx); omega)
  have HJC := hid (HJ.out u w3 hla HF.out)
  clear HPC HJ HF hol hrl hla hb3
  go_wp2_with fail
  refine HJC.out.mono ?_
  rintro e w4 ⟨rfl, hb4⟩
  have HB := hid (HB1.out.trans (Below.mono (h3.go hb4) HB1.out.size))
  clear HJC hb4
  generalize jnT (unL (progW p)) = jt at *
  generalize jnE (unL (progW p)) = je at *
  go_wp2
  go_ret2
  rw [HE1.out]
  exact ⟨rfl, HB.out⟩
 ·have HE1 := hid (HE.out.trans (if_neg hc))
  have HB := hid (HB1.out.trans (Below.mono h2 HB1.out.size))
  clear HE HPR HFT HJ
  go_wp2
  go_ret2
  rw [HE1.out]
  exact ⟨rfl, HB.out⟩

end Go.Proofs.YtbebficgcemkoaaGreatDoor.WvW
