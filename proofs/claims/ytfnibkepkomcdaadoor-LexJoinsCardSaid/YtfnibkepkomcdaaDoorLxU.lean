/- Walks over fescueref05.mayAll, line and Join. -/
import Derived.Test.YtfnibkepkomcdaaDoorLxT
namespace Go.Proofs.YtfnibkepkomcdaaDoor.LxU
open Go.RowKit Go.Lib LxM LxP LxK LxJ LxS LxY LxO LxB LxN LxT

theorem all_good {l : List (List ByteArray)} (h : ∀ k (hk : k < l.length), badL l[k] = false) : l.any badL = false := any_no h
theorem bad_word {x : List ByteArray} {j : Nat} (h : j < x.length) (hb : mayB (un x[j]) = false) : badL x = true := by
  unfold badL
  rw [any_yes h (by unfold badW; rw [hb]; rfl)]
  simp
theorem good_line {x : List ByteArray} (h : ∀ j (hj : j < x.length), mayB (un x[j]) = true) (h0 : x.length ≠ 0) : badL x = false := by
  unfold badL
  rw [any_no fun k hk => by unfold badW; rw [h k hk]; rfl]
  simp
  intro e; exact h0 (by rw [e]; rfl)

set_option maxRecDepth 100000 in
set_option maxHeartbeats 4000000 in
theorem mayAll_calls (va : Value) (l : List (List ByteArray)) (w : World) (hl : LinesAt w va l) (hf : Fits l) :
    Calls Tryd.prog 29 #[va] w (BoolR (!l.any badL) w) := by
  have HA := hid hl
  obtain ⟨ao, ac, rfl, hla⟩ := hl.slice
  have HF := hid hf
  have HGO := hid (all_good (l := l))
  have HBA := hid (fun k hk h => any_yes (l := l) (p := badL) (k := k) hk h)
  clear hl hf
  go_enter Tryd.func29, Tryd.ntmps29
  go_wp2
  go_loopg [3, 4] l.length (fun gk iv _kv wr => ∃ i : Nat, i + gk = l.length ∧ iv = .int .i64 i ∧ Hid (∀ j (h : j < l.length), j < i → badL l[j] = false) ∧ Below w.heap.size w wr)
  case atStart => exact ⟨0, by omega, rfl, (fun j h h2 => by omega), Below.refl _ _⟩
  case round =>
    obtain ⟨i, hi, rfl, HS, hbe⟩ := hrel
    have HI := hid hi
    by_cases hlt : i < l.length
    · obtain ⟨b, o, pv, rfl, hb0, hc, hp⟩ := (HA.out.below hbe).at i hlt
      have HBX := hid (HBA.out i hlt)
      have HSX : Hid (badL l[i] = false → ∀ j (h : j < l.length), j < i + 1 → badL l[j] = false) := fun h j hj h2 => by
        by_cases e : j = i
        · subst e; exact h
        · exact HS.out j hj (by omega)
      have HSI := hid (HF.out.size _ (List.getElem_mem hlt))
      generalize l[i] = x at *
      have HP := hid hp
      obtain ⟨pa, pc, rfl, hpl⟩ := hp.slice
      have HC := hid hc
      clear hp hi
      go_wp2
      obtain ⟨wo, hwo⟩ : ∃ wo : World, wo = wr := ⟨wr, rfl⟩
      subst hwo
      obtain ⟨go, hgo⟩ : ∃ go : Nat, go = gk := ⟨gk, rfl⟩
      subst hgo
      clear hc
      go_loopg [4] x.length (fun gk jv wr => ∃ j : Nat, j + gk = x.length ∧ jv = .int .i64 j ∧ Hid (∀ k (hk : k < x.length), k < j → mayB (un x[k]) = true) ∧ Below wo.heap.size wo wr)
      case atStart => exact ⟨0, by omega, rfl, (fun j h h2 => by omega), Below.refl _ _⟩
      case round =>
        obtain ⟨j, hj, rfl, HM, hbj⟩ := hrel
        have HJ := hid hj
        have hc := (hbj.cell (p := ⟨b, _, none⟩) hb0).trans HC.out
        by_cases hjl : j < x.length
        · obtain ⟨xb, xo, rfl, _, cx⟩ := (HP.out.below hbj).at j hjl
          have hys := HSI.out _ (List.getElem_mem hjl)
          have HCM := hid (mayR_calls x[j] (by omega) wr)
          have HBW := hid (bad_word hjl)
          have HM2 : Hid (mayB (un x[j]) = true → ∀ k (hk : k < x.length), k < j + 1 → mayB (un x[k]) = true) := fun h k hk h2 => by
            by_cases e : k = j
            · subst e; exact h
            · exact HM.out k hk (by omega)
          generalize hmb : mayB (un x[j]) = mb at *
          generalize x[j] = y at *
          clear hj hmb
          cases mb with
          | true =>
            have HM3 := hid (HM2.out rfl)
            clear HBW HM2
            go_wp2_with fail
            refine HCM.out.mono ?_
            rintro e w1 ⟨rfl, hb1⟩
            have hbb := hbj.trans (hb1.mono hbj.size)
            clear hb1
            go_wp2
            go_roundg (gk - 1)
            case measure => have := HJ.out; omega
            case rel => exact ⟨j + 1, by have := HJ.out; omega, by go_num, HM3, hbb⟩
          | false =>
            have HBB := hid (HBX.out (HBW.out rfl))
            clear HBW HM2
            go_wp2_with fail
            refine HCM.out.mono ?_
            rintro e w1 ⟨rfl, hb1⟩
            have hbb := hbe.trans ((hbj.trans (hb1.mono hbj.size)).mono hbe.size)
            clear hb1
            go_wp2
            go_ret
            exact ⟨by rw [HBB.out]; rfl, hbb⟩
        · obtain rfl : j = x.length := by omega
          have hbb := hbe.trans (hbj.mono hbe.size)
          have HGL := hid (good_line (x := x) fun k hk => HM.out k hk hk)
          have HBL : Hid (x.length = 0 → badL x = true) := fun h => by unfold badL; rw [h]; rfl
          clear hj
          by_cases h0 : x.length = 0
          · have HBB := hid (HBX.out (HBL.out h0))
            have he : ((x.length : Int) == 0) = true := beq_iff_eq.2 (by omega)
            clear HBL HGL HM HBX HSX
            go_wp2
            go_ret
            exact ⟨by rw [HBB.out]; rfl, hbb⟩
          · have HS3 := hid (HSX.out (HGL.out h0))
            have he : ((x.length : Int) == 0) = false := beq_eq_false_iff_ne.2 (by omega)
            clear HBL HGL HM HBX HSX
            go_wp2
            go_roundg (go - 1)
            case measure => have := HI.out; omega
            case rel => exact ⟨i + 1, by have := HI.out; omega, by go_num, HS3, hbb⟩
    · obtain rfl : i = l.length := by omega
      have HE := hid (HGO.out fun k hk => HS.out k hk hk)
      clear hi
      go_wp2
      go_ret
      exact ⟨by rw [HE.out]; rfl, hbe⟩
end Go.Proofs.YtfnibkepkomcdaaDoor.LxU
