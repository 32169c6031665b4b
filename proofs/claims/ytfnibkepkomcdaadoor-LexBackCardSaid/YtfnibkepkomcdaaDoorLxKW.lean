/- Walk over fescuelaw05.LexBack. -/
import Derived.Test.YtfnibkepkomcdaaDoorLxLA
import Derived.Test.YtfnibkepkomcdaaDoorLxG
import Derived.Test.YtfnibkepkomcdaaDoorLxT
namespace Go.Proofs.YtfnibkepkomcdaaDoor.LxKW
open Go.RowKit Go.Lib LxM LxP LxK LxJ LxS LxY LxO LxN LxT LxLA LxG

theorem gL_mem {x : List ByteArray} {y : ByteArray} (h : y ∈ x) : 1 + min y.size 100000 ≤ gL x := by
  obtain ⟨s, t, rfl⟩ := List.append_of_mem h
  unfold gL
  simp only [List.map_append, List.map_cons, List.sum_append, List.sum_cons]
  omega
theorem gT_mem {l : List (List ByteArray)} {x : List ByteArray} (h : x ∈ l) : 1 + gL x ≤ gT l := by
  obtain ⟨s, t, rfl⟩ := List.append_of_mem h
  unfold gT
  simp only [List.map_append, List.map_cons, List.sum_append, List.sum_cons]
  omega
theorem szL_gL : ∀ (x : List ByteArray), (∀ y ∈ x, y.size ≤ 100000) → szL (unW x) = gL x
  | [], _ => rfl
  | y :: x, h => by
    have ih := szL_gL x fun z hz => h z (by simp [hz])
    have hy := h y (by simp)
    have e1 : szL (unW (y :: x)) = (un y).length + 1 + szL (unW x) := by simp [szL]
    have e2 : gL (y :: x) = 1 + min y.size 100000 + gL x := by simp [gL]
    rw [e1, e2, un_len, ih]; omega
theorem szT_gT : ∀ (l : List (List ByteArray)), (∀ x ∈ l, ∀ y ∈ x, y.size ≤ 100000) → szT (unL l) ≤ gT l
  | [], _ => by simp [szT, gT]
  | x :: l, h => by
    have ih := szT_gT l fun z hz => h z (by simp [hz])
    have hx := szL_gL x (h x (by simp))
    have e1 : szT (unL (x :: l)) = szL (unW x) + szT (unL l) := by simp [szT]
    have e2 : gT (x :: l) = 1 + gL x + gT l := by simp [gT]
    rw [e1, e2]; omega
theorem small_fits {l : List (List ByteArray)} {most : Nat} (h : Small l most) (hm : most ≤ 90000) : Fits l := by
  obtain ⟨h1, h2, h3⟩ := h
  have hs : ∀ x ∈ l, ∀ y ∈ x, y.size ≤ 90000 := fun x hx y hy => by
    have a := gL_mem hy
    have b := gT_mem hx
    omega
  refine ⟨by omega, fun x hx => by have := h2 x hx; omega, fun x hx y hy => by have := hs x hx y hy; omega, ?_⟩
  have := szT_gT l fun x hx y hy => by have := hs x hx y hy; omega
  omega
theorem szL_mem {x : List Word} {y : Word} (h : y ∈ x) : y.length + 1 ≤ szL x := by
  obtain ⟨s, t, rfl⟩ := List.append_of_mem h
  unfold szL
  simp only [List.map_append, List.map_cons, List.sum_append, List.sum_cons]
  omega
theorem szT_mem {l : List (List Word)} {x : List Word} (h : x ∈ l) : szL x ≤ szT l := by
  obtain ⟨s, t, rfl⟩ := List.append_of_mem h
  unfold szT
  simp only [List.map_append, List.map_cons, List.sum_append, List.sum_cons]
  omega
theorem lines_sz {s : List UInt8} (h : lnE s = 0) : szT (lnT s) ≤ s.length + 1 := by
  rw [lnT_ok h]
  exact Nat.le_trans (szT_filter _) (all_ok s).2
theorem lines_fits {s : List UInt8} (h : lnE s = 0) (hs : s.length ≤ 16384) : Fits (mkL (lnT s)) := by
  obtain ⟨h1, h2⟩ := lnT_len s
  have h3 := lines_sz h
  refine ⟨?_, fun x hx => ?_, fun x hx y hy => ?_, ?_⟩
  · rw [List.length_map]; omega
  · obtain ⟨z, hz, rfl⟩ := List.mem_map.1 hx
    have := h2 z hz
    simp; omega
  · obtain ⟨z, hz, rfl⟩ := List.mem_map.1 hx
    obtain ⟨u, hu, rfl⟩ := List.mem_map.1 hy
    have a := szL_mem hu
    have b := szT_mem hz
    rw [mk_size]; omega
  · rw [unL_mkL]; omega

theorem jn_cases (l : List (List Word)) : jnE l = 0 ∨ jnE l = 2 ∨ jnE l = 4 := by
  unfold jnE
  split
  · simp
  · split <;> simp
/-- what is joined has these lines -/
theorem back_are {l : List (List ByteArray)} (h : jnE (unL l) = 0) : decide (lnE (un (mk (jnT (unL l)))) = 0 ∧ mkL (lnT (un (mk (jnT (unL l))))) = l) = true := by
  obtain ⟨h1, h2⟩ := back_text h
  rw [un_mk, jnT_ok h]
  refine decide_eq_true ⟨h1, ?_⟩
  rw [h2, mkL_unL]

set_option maxRecDepth 100000 in
set_option maxHeartbeats 4000000 in
theorem walk (W : World) (v : Value) (l : List (List ByteArray)) (S : LinesAt W v l) (_ : ∀ x ∈ l, ∀ y ∈ x, y.size ≤ maxLen) (s : ByteArray) (w1 : s.size ≤ maxLen) (ht : Tab W) :
    Calls Tryd.prog 6 #[v, .string s] W fun e W' => e = .returned (.bool true) ∧ Below W.heap.size W W' := by
  have hs0 : s.size ≤ 9223372036854775807 := by unfold maxLen at w1; omega
  have HAL := hid (alive_calls W ht)
  have HGR := hid (fun wx (hb : Below W.heap.size W wx) => great_calls v l 2000 (by omega) wx (S.below hb))
  have HJ := hid (fun (hf : Fits l) wx (hb : Below W.heap.size W wx) => joinC_calls v l wx (S.below hb) hf (ht.on hb))
  have HAR := hid (fun (x : ByteArray) wx (hb : Below W.heap.size W wx) => are_calls x v l wx (S.below hb) (ht.on hb))
  have HLN := hid (fun wx (hb : Below W.heap.size W wx) => (LxL.lines_calls s wx (ht.on hb)).mono fun e w' h => lna h)
  have HT := hid ht
  obtain ⟨ao, ac, rfl, hla⟩ := S.slice
  clear S w1 ht
  go_enter Tryd.func6, Tryd.ntmps6
  go_wp2_with fail
  refine HAL.out.mono ?_
  rintro e w1 ⟨rfl, hb1⟩
  have HG1 := hid (HGR.out w1 hb1)
  go_wp2_with fail
  refine HG1.out.mono ?_
  rintro e w2 ⟨g, rfl, hsm, hb2⟩
  have hbe2 := hb1.trans (hb2.mono hb1.size)
  clear HAL HGR HG1 hb1 hb2
  cases g with
  | true =>
    clear hsm HJ HAR HLN HT
    go_wp2
    go_ret
    exact ⟨rfl, hbe2⟩
  | false =>
    have hf := small_fits (hsm rfl) (by omega)
    have HJ2 := hid (HJ.out hf w2 hbe2)
    clear hsm HJ hf
    by_cases h2000 : 2000 < s.size
    · clear HJ2 HAR HLN HT
      go_wp2
      go_ret
      exact ⟨rfl, hbe2⟩
    · go_wp2_with fail
      refine HJ2.out.mono ?_
      rintro e w3 ⟨rfl, hb3⟩
      have hbe3 := hbe2.trans (hb3.mono hbe2.size)
      clear hb3 HJ2
      rcases jn_cases (unL l) with hj | hj
      · have HAE := hid (back_are hj)
        have HA1 := hid (HAR.out (mk (jnT (unL l))) w3 hbe3)
        rw [HAE.out] at HA1
        rw [hj]
        clear HAR HAE hj
        generalize mk (jnT (unL l)) = y at *
        go_wp2_with fail
        refine HA1.out.mono ?_
        rintro e w4 ⟨rfl, hb4⟩
        have hbe4 := hbe3.trans (hb4.mono hbe3.size)
        clear hb4 HA1
        have HL1 := hid (HLN.out w4 hbe4)
        clear HLN
        rcases lnE_cases (un s) with h0 | h0
        · have HF := hid (lines_fits h0 (by rw [un_len]; omega))
          have HJE := hid (lines_join h0 (by rw [un_len]; omega))
          unfold LnA at HL1
          rw [h0] at HL1
          clear h0
          generalize lnT (un s) = m at *
          have HAE := hid (back_are (l := mkL m) (by rw [unL_mkL]; exact HJE.out))
          rw [unL_mkL] at HAE
          go_wp2_with fail
          refine HL1.out.mono ?_
          rintro e wy ⟨u, rfl, hu, hby⟩
          have hbey := hbe4.trans (hby.mono hbe4.size)
          have HU := hid hu
          have HJm := hid (joinC_calls u (mkL m) wy hu HF.out (HT.out.on hbey))
          unfold JnR at HJm
          rw [unL_mkL, HJE.out] at HJm
          have HAm := hid (fun wz (hb : Below wy.heap.size wy wz) => are_calls (mk (jnT m)) u (mkL m) wz (HU.out.below hb) (HT.out.on (hbey.trans (hb.mono hbey.size))))
          rw [HAE.out] at HAm
          obtain ⟨ua, uc, rfl, _⟩ := hu.slice
          clear hu hby HL1 HF HJE HAE HU
          generalize mk (jnT m) = y at *
          generalize (mkL m).length = n at *
          go_wp2_with fail
          refine HJm.out.mono ?_
          rintro e wz ⟨rfl, hbz⟩
          have HA2 := hid (HAm.out wz hbz)
          have hbez := hbey.trans (hbz.mono hbey.size)
          clear hbz HJm HAm hbey
          go_wp2_with fail
          refine HA2.out.mono ?_
          rintro e wq ⟨rfl, hbq⟩
          have hbeq := hbez.trans (hbq.mono hbez.size)
          clear hbq HA2 hbez
          go_wp2
          go_ret
          exact ⟨rfl, hbeq⟩
        · unfold LnA at HL1
          rw [h0, lnT_no h0] at HL1
          clear h0
          go_wp2_with fail
          refine HL1.out.mono ?_
          rintro e wy ⟨u, rfl, hu, hby⟩
          have hbey := hbe4.trans (hby.mono hbe4.size)
          obtain ⟨ua, uc, rfl, _⟩ := hu.slice
          clear hu hby HL1
          go_wp2
          go_ret
          exact ⟨rfl, hbey⟩
      · have hne : (jnE (unL l) == 0) = false := by rcases hj with h | h <;> rw [h] <;> rfl
        generalize jnE (unL l) = er at *
        clear hj HAR
        generalize mk (jnT (unL l)) = y at *
        have HL1 := hid (HLN.out w3 hbe3)
        clear HLN
        rcases lnE_cases (un s) with h0 | h0
        · have HF := hid (lines_fits h0 (by rw [un_len]; omega))
          have HJE := hid (lines_join h0 (by rw [un_len]; omega))
          unfold LnA at HL1
          rw [h0] at HL1
          clear h0
          generalize lnT (un s) = m at *
          have HAE := hid (back_are (l := mkL m) (by rw [unL_mkL]; exact HJE.out))
          rw [unL_mkL] at HAE
          go_wp2_with fail
          refine HL1.out.mono ?_
          rintro e wy ⟨u, rfl, hu, hby⟩
          have hbey := hbe3.trans (hby.mono hbe3.size)
          have HU := hid hu
          have HJm := hid (joinC_calls u (mkL m) wy hu HF.out (HT.out.on hbey))
          unfold JnR at HJm
          rw [unL_mkL, HJE.out] at HJm
          have HAm := hid (fun wz (hb : Below wy.heap.size wy wz) => are_calls (mk (jnT m)) u (mkL m) wz (HU.out.below hb) (HT.out.on (hbey.trans (hb.mono hbey.size))))
          rw [HAE.out] at HAm
          obtain ⟨ua, uc, rfl, _⟩ := hu.slice
          clear hu hby HL1 HF HJE HAE HU
          generalize mk (jnT m) = y at *
          generalize (mkL m).length = n at *
          go_wp2_with fail
          refine HJm.out.mono ?_
          rintro e wz ⟨rfl, hbz⟩
          have HA2 := hid (HAm.out wz hbz)
          have hbez := hbey.trans (hbz.mono hbey.size)
          clear hbz HJm HAm hbey
          go_wp2_with fail
          refine HA2.out.mono ?_
          rintro e wq ⟨rfl, hbq⟩
          have hbeq := hbez.trans (hbq.mono hbez.size)
          clear hbq HA2 hbez
          go_wp2
          go_ret
          exact ⟨rfl, hbeq⟩
        · unfold LnA at HL1
          rw [h0, lnT_no h0] at HL1
          clear h0
          go_wp2_with fail
          refine HL1.out.mono ?_
          rintro e wy ⟨u, rfl, hu, hby⟩
          have hbey := hbe3.trans (hby.mono hbe3.size)
          obtain ⟨ua, uc, rfl, _⟩ := hu.slice
          clear hu hby HL1
          go_wp2
          go_ret
          exact ⟨rfl, hbey⟩
end Go.Proofs.YtfnibkepkomcdaaDoor.LxKW
