/- Walk over fescuelaw03.TypesParts. -/
import Derived.Test.YtgimdoagccpcdaaTyLA
import Derived.Test.YtgimdoagccpcdaaTyN
namespace Go.Proofs.Ytgimdoagccpcdaa.TyLP
open Go.RowKit Go.Lib Go.Shelf SetP IntO TyM TyP TyB TyC TyD TyE TyS TyF TyH TyK TyQ TyRC TyRE TyW TyLA TyN

theorem ints_sub {w : World} {b off n cap : Nat} {l : List Int} (h : IntsAt w (.slice (some ⟨b, off, none⟩) n cap) l) (a m : Nat) (hm : a + m ≤ l.length) : IntsAt w (.slice (some ⟨b, off + a, none⟩) m (cap - a)) ((l.drop a).take m) := by
  obtain ⟨ao', cap', hv, hl, hx, hz, hc⟩ := h
  cases hv
  have hlen : ((l.drop a).take m).length = m := by rw [List.length_take, List.length_drop]; omega
  refine ⟨some ⟨b, off + a, none⟩, cap - a, by rw [hlen], by rw [hlen]; omega, fun h0 => ?_, (fun h => by cases h), by rw [hlen]; omega⟩
  rw [hlen] at h0
  obtain ⟨b', off', hb, hlt, hcc⟩ := hx (by omega)
  cases hb
  refine ⟨b, off + a, rfl, hlt, fun i hi => ?_⟩
  rw [hlen] at hi
  have := hcc (a + i) (by omega)
  rw [show off + (a + i) = off + a + i by omega] at this
  rw [this, List.getElem_take, List.getElem_drop]

set_option maxHeartbeats 2000000 in
theorem walk (W : World) (v : Value) (t : List Ty) (S : TysAt W v t) (_ : ∀ x ∈ t, TyOk x) (k : Int) (_ : (Lit.int .i64 k).wf = true) (n : Int) (_ : (Lit.int .i64 n).wf = true) :
    Calls Try.prog 6 #[v, .int .i64 k, .int .i64 n] W fun e W' => e = .returned (.bool true) ∧ Below W.heap.size W W' := by
  have HT := hid S
  have HAL := hid (alive_calls W)
  have HG := hid (fun wx (hb : Below W.heap.size W wx) => great_calls v t wx (S.below hb))
  have HC := hid (fun q wx (hb : Below W.heap.size W wx) => cells_calls t v q wx (S.below hb))
  have HP := hid (fun wx (hb : Below W.heap.size W wx) => part_calls t v k n wx (S.below hb))
  have HO := hid (fun m wx (hb : Below W.heap.size W wx) => offset_calls t v k m wx (S.below hb))
  obtain ⟨ao, cap, rfl⟩ := S.slice
  clear S
  generalize greatB t = g at *
  generalize t.length = tl at *
  by_cases hout : g = true ∨ n < 0 ∨ 100 < n
  · clear HC HP HO HT
    cases g with
    | true =>
      clear hout
      go_enter Try.func6, Try.ntmps6
      go_wp2_with fail
      refine HAL.out.mono ?_
      rintro e w1 ⟨rfl, hb1⟩
      have HG1 := hid (HG.out w1 hb1)
      go_wp2_with fail
      refine HG1.out.mono ?_
      rintro e w2 ⟨rfl, hb2⟩
      have hbe := hb1.trans (hb2.mono hb1.size)
      go_wp2
      go_ret
      exact ⟨rfl, hbe⟩
    | false =>
      by_cases h0 : n < 0
      · clear hout
        go_enter Try.func6, Try.ntmps6
        go_wp2_with fail
        refine HAL.out.mono ?_
        rintro e w1 ⟨rfl, hb1⟩
        have HG1 := hid (HG.out w1 hb1)
        go_wp2_with fail
        refine HG1.out.mono ?_
        rintro e w2 ⟨rfl, hb2⟩
        have hbe := hb1.trans (hb2.mono hb1.size)
        go_wp2
        all_goals (try (exfalso; omega))
        go_ret
        exact ⟨rfl, hbe⟩
      · have h1 : 100 < n := by
          rcases hout with h | h | h
          · cases h
          · exact absurd h h0
          · exact h
        clear hout
        go_enter Try.func6, Try.ntmps6
        go_wp2_with fail
        refine HAL.out.mono ?_
        rintro e w1 ⟨rfl, hb1⟩
        have HG1 := hid (HG.out w1 hb1)
        go_wp2_with fail
        refine HG1.out.mono ?_
        rintro e w2 ⟨rfl, hb2⟩
        have hbe := hb1.trans (hb2.mono hb1.size)
        go_wp2
        all_goals (try (exfalso; omega))
        go_ret
        exact ⟨rfl, hbe⟩
  · obtain rfl : g = false := by cases g <;> simp_all
    have h0 : 0 ≤ n := by simp at hout; omega
    have h1 : n ≤ 100 := by simp at hout; omega
    clear hout
    have HPI := hid (@part_in t k n)
    have HPE := hid (@partE_err t k n)
    have HPT := hid (@partT_err t k n)
    have HLL := hid (list_len t)
    have HLS := hid (fun k => @list_some t k)
    go_enter Try.func6, Try.ntmps6
    go_wp2_with fail
    refine HAL.out.mono ?_
    rintro e w1 ⟨rfl, hb1⟩
    have HG1 := hid (HG.out w1 hb1)
    go_wp2_with fail
    refine HG1.out.mono ?_
    rintro e w2 ⟨rfl, hb2⟩
    have hbe := hb1.trans (hb2.mono hb1.size)
    have HC1 := hid (HC.out k w2 hbe)
    clear hb1 hb2 HG HG1 HAL
    go_wp2_with fail
    all_goals (try (exfalso; omega))
    refine HC1.out.mono ?_
    rintro e w3 ⟨u, rfl, hu, hb3⟩
    have hbe3 := hbe.trans (hb3.mono hbe.size)
    have HP1 := hid (HP.out w3 hbe3)
    have HU := hid hu
    obtain ⟨ua, uc, rfl, _⟩ := ints_slice hu
    clear hu hbe hb3 HC1
    go_wp2_with fail
    refine HP1.out.mono ?_
    rintro e w4 ⟨rfl, hb4⟩
    have hbe4 := hbe3.trans (hb4.mono hbe3.size)
    have HU4 := hid (HU.out.below hb4)
    have HO1 := hid (HO.out n w4 hbe4)
    clear hb4 hbe3 HP1 HU
    go_wp2_with fail
    refine HO1.out.mono ?_
    rintro e w5 ⟨rfl, hb5⟩
    have hbe5 := hbe4.trans (hb5.mono hbe4.size)
    have HU5 := hid (HU4.out.below hb5)
    clear hb5 hbe4 HO1 HU4
    by_cases hpe : partE t k n = 0
    · obtain ⟨q1, q2, q3, q4, q5⟩ := HPI.out hpe
      have hask := (partE_zero hpe).1
      rw [hask, hpe]
      have hls := HLS.out _ q1
      have hl1 := HLL.out k
      have hl2 := HLL.out (partT t k n)
      have HC2 := hid (HC.out (partT t k n) w5 hbe5)
      have HO2 := hid (fun wx hb => HO.out (n + 1) wx hb)
      rw [q1] at HC2
      clear HPI HPE HPT HLL HLS hask hpe q1
      have Q4 := hid q4
      have Q5 := hid q5
      clear q4 q5
      generalize partT t k n = p at *
      obtain ⟨a, ha⟩ : ∃ a : Nat, offT t k n = a := ⟨(offT t k n).toNat, by omega⟩
      rw [ha] at q3 Q4 Q5 ⊢
      rw [Int.toNat_natCast] at Q4
      clear ha q2
      go_wp2_with fail
      refine HC2.out.mono ?_
      rintro e w6 ⟨u2, rfl, hu2, hb6⟩
      have hbe6 := hbe5.trans (hb6.mono hbe5.size)
      have HU6 := hid (HU5.out.below hb6)
      have HV6 := hid hu2
      obtain ⟨va, vc, rfl, _⟩ := ints_slice hu2
      clear hu2 hb6 hbe5 HU5 HC2
      obtain ⟨b, off, rfl, hx1, hx2⟩ := ints_at HU6.out 0 (by omega)
      clear hx1 hx2
      have hcap := ints_cap HU6.out
      have HSM := hid (fun wx hx hy => sameInts_calls (.slice (some ⟨b, off + a, none⟩) (listT t p).length (uc - a)) (.slice va (listT t p).length vc) (((listT t k).drop a).take (listT t p).length) (listT t p) wx hx hy)
      have HSUB := hid (ints_sub HU6.out a (listT t p).length (by omega))
      rw [Q4.out] at HSM HSUB
      rw [decide_eq_true rfl] at HSM
      have HSM1 := hid (HSM.out w6 HSUB.out HV6.out)
      clear HU6 HV6 HSM HSUB Q4 HC HP HO HT
      generalize (listT t p).length = m at *
      generalize (listT t k).length = al at *
      have hne : ¬ a = uc := by omega
      have hq1 : ¬ (al : Int) < a := by omega
      have hq2 : ¬ (al : Int) - a < m := by omega
      go_wp2_with fail
      refine HSM1.out.mono ?_
      rintro e w7 ⟨rfl, hb7⟩
      have hbe7 := hbe6.trans (hb7.mono hbe6.size)
      have HO3 := hid (HO2.out w7 hbe7)
      clear hb7 hbe6 HSM1 HO2 hq1 hq2 hne
      generalize partE t k (n + 1) = pe at *
      generalize offT t k (n + 1) = ot at *
      have hai : (a : Int) + m ≤ 9223372036854775807 := by omega
      by_cases h2 : pe = 0
      · subst h2
        have h5 : ot = (a : Int) + m := by have := Q5.out; rwa [if_pos rfl] at this
        subst h5
        clear Q5
        go_wp2_with fail
        refine HO3.out.mono ?_
        rintro e w8 ⟨rfl, hb8⟩
        have hbe8 := hbe7.trans (hb8.mono hbe7.size)
        clear hb8
        go_wp2
        go_ret
        exact ⟨by simp, hbe8⟩
      · have h5 : (a : Int) + m = al := by have := Q5.out; rwa [if_neg h2] at this
        have hd : (pe != 0) = true := by simpa using h2
        have H5 : Hid ((((a : Int) + m) == (al : Int)) = true) := by show _ = _; simpa using h5
        have hd5 := H5.out
        clear Q5 h2 h5
        go_wp2_with fail
        refine HO3.out.mono ?_
        rintro e w8 ⟨rfl, hb8⟩
        have hbe8 := hbe7.trans (hb8.mono hbe7.size)
        clear hb8
        go_wp2
        go_ret
        exact ⟨by simp, hbe8⟩
    · obtain ⟨e1, e2⟩ := HPT.out hpe
      rw [e1, e2]
      have HPE2 := hid (fun h => (HPE.out h).symm)
      clear HPI HPT HLL HLS HC HP HO HT e1 e2 HPE
      by_cases hask : askT t k = 0
      · rw [hask]
        have hd : (partE t k n != 0) = true := by simpa using hpe
        clear HPE2 hask hpe
        generalize partE t k n = pe at *
        generalize listT t k = l at *
        go_wp2
        go_ret
        exact ⟨by simp, hbe5⟩
      · have hd : (askT t k != 0) = true := by simpa using hask
        have hd2 : (partE t k n != 0) = true := by simpa using hpe
        clear HPE2 hask hpe
        generalize partE t k n = pe at *
        generalize askT t k = ak at *
        generalize listT t k = l at *
        go_wp2
        go_ret
        exact ⟨by simp, hbe5⟩
end Go.Proofs.Ytgimdoagccpcdaa.TyLP
