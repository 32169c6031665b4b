/- Walk over fescuelaw04.FlatParts. -/
import Derived.Test.YtindpgejnaofkaaFlLA
import Derived.Test.YtindpgejnaofkaaFlN
namespace Go.Proofs.Ytindpgejnaofkaa.FlLP
open Go.RowKit Go.Lib Go.Shelf SetP IntO TyM TyP TyB TyC TyD TyE TyS TyF TyH TyK TyQ TyW TyRE TyN FlM FlQ FlW FlX FlF FlG FlN FlLA

set_option maxHeartbeats 2000000 in
theorem walk (W : World) (v : Value) (t : List Ty) (S : TysAt W v t) (_ : ∀ x ∈ t, TyOk x) (k : Int) (_ : (Lit.int .i64 k).wf = true) (n : Int) (_ : (Lit.int .i64 n).wf = true) (c : Int) (_ : (Lit.int .i64 c).wf = true) :
    Calls Try.prog 5 #[v, .int .i64 k, .int .i64 n, .int .i64 c] W fun e W' => e = .returned (.bool true) ∧ Below W.heap.size W W' := by
  have HAL := hid (alive_calls W)
  have HG := hid (fun wx (hb : Below W.heap.size W wx) => great_calls v t wx (S.below hb))
  have HP := hid (fun wx (hb : Below W.heap.size W wx) => part_calls t v k n wx (S.below hb))
  have HO := hid (fun wx (hb : Below W.heap.size W wx) => offset_calls t v k n wx (S.below hb))
  have HS := hid (fun wx (hb : Below W.heap.size W wx) => step_calls t v k n wx (S.below hb))
  have HF := hid (fun p d wx (hb : Below W.heap.size W wx) => flat_calls t v p d wx (S.below hb))
  obtain ⟨ao, cap, rfl⟩ := S.slice
  clear S
  generalize greatB t = g at *
  generalize t.length = tl at *
  by_cases hout : g = true ∨ c < 0 ∨ 100 < c
  · clear HP HO HS HF
    cases g with
    | true =>
      clear hout
      go_enter Try.func5, Try.ntmps5
      go_wp2_with fail
      refine HAL.out.mono ?_
      rintro e w1 ⟨rfl, hb1⟩
      have HG1 := hid (HG.out w1 hb1)
      go_wp2_with fail
      refine HG1.out.mono ?_
      rintro e w2 ⟨rfl, hb2⟩
      have hbe := hb1.trans (hb2.mono hb1.size)
      go_wp2
      go_ret
      exact ⟨rfl, hbe⟩
    | false =>
      by_cases h0 : c < 0
      · clear hout
        go_enter Try.func5, Try.ntmps5
        go_wp2_with fail
        refine HAL.out.mono ?_
        rintro e w1 ⟨rfl, hb1⟩
        have HG1 := hid (HG.out w1 hb1)
        go_wp2_with fail
        refine HG1.out.mono ?_
        rintro e w2 ⟨rfl, hb2⟩
        have hbe := hb1.trans (hb2.mono hb1.size)
        go_wp2
        all_goals (try (exfalso; omega))
        go_ret
        exact ⟨rfl, hbe⟩
      · have h1 : 100 < c := by
          rcases hout with h | h | h
          · cases h
          · exact absurd h h0
          · exact h
        clear hout
        go_enter Try.func5, Try.ntmps5
        go_wp2_with fail
        refine HAL.out.mono ?_
        rintro e w1 ⟨rfl, hb1⟩
        have HG1 := hid (HG.out w1 hb1)
        go_wp2_with fail
        refine HG1.out.mono ?_
        rintro e w2 ⟨rfl, hb2⟩
        have hbe := hb1.trans (hb2.mono hb1.size)
        go_wp2
        all_goals (try (exfalso; omega))
        go_ret
        exact ⟨rfl, hbe⟩
  · obtain rfl : g = false := by cases g <;> simp_all
    have h0 : 0 ≤ c := by simp at hout; omega
    have h1 : c ≤ 100 := by simp at hout; omega
    clear hout
    have HPI := hid (@part_in t k n)
    have HPF := hid (@part_flat t k n c)
    have HTW := hid (fun ha => @field_two t (partT t k n) c ha)
    have HSB := hid (@step_bound t k n)
    have HFB := hid (@field_bound t (partT t k n) c)
    have HSE : Hid (partE t k n ≠ 0 → stepTy t k n = 0) := fun h => if_neg h
    have HLL := hid (list_len t k)
    go_enter Try.func5, Try.ntmps5
    go_wp2_with fail
    refine HAL.out.mono ?_
    rintro e w1 ⟨rfl, hb1⟩
    have HG1 := hid (HG.out w1 hb1)
    go_wp2_with fail
    refine HG1.out.mono ?_
    rintro e w2 ⟨rfl, hb2⟩
    have hbe := hb1.trans (hb2.mono hb1.size)
    have HC1 := hid (HP.out w2 hbe)
    clear hb1 hb2 HG HG1 HAL
    go_wp2_with fail
    all_goals (try (exfalso; omega))
    refine HC1.out.mono ?_
    rintro e w3 ⟨rfl, hb3⟩
    have hbe3 := hbe.trans (hb3.mono hbe.size)
    have HC2 := hid (HO.out w3 hbe3)
    clear hbe hb3 HC1
    go_wp2_with fail
    refine HC2.out.mono ?_
    rintro e w4 ⟨rfl, hb4⟩
    have hbe4 := hbe3.trans (hb4.mono hbe3.size)
    have HC3 := hid (HS.out w4 hbe4)
    clear hbe3 hb4 HC2
    go_wp2_with fail
    refine HC3.out.mono ?_
    rintro e w5 ⟨rfl, hb5⟩
    have hbe5 := hbe4.trans (hb5.mono hbe4.size)
    clear hbe4 hb5 HC3
    by_cases hpe : partE t k n = 0
    · obtain ⟨hap, ho0, ho1, _, _⟩ := HPI.out hpe
      have HPF2 := hid (HPF.out hpe)
      have HTW2 := hid (HTW.out hap)
      obtain ⟨s0, s1⟩ := HSB.out
      obtain ⟨f0, f1⟩ := HFB.out
      have hll := HLL.out
      have ho2 : offT t k n ≤ 32 := by omega
      have HC4 := hid (HF.out (partT t k n) c w5 hbe5)
      rw [hpe]
      have HC5 := hid (fun wx hb => HF.out k (offT t k n + c) wx hb)
      clear HPI HPF HTW HSB HFB HSE HLL hap ho1 hll hpe HF HP HO HS
      by_cases hfe : flatE t (partT t k n) c = 0
      · obtain ⟨e1, e2⟩ := HPF2.out hfe
        rw [e1, e2] at HC5
        rw [hfe] at HC4
        clear HPF2 HTW2 hfe e1 e2
        generalize partT t k n = p at *
        generalize flatC t p c = fc at *
        generalize offT t k n = off at *
        generalize stepTy t k n = st at *
        go_wp2_with fail
        refine HC4.out.mono ?_
        rintro e w6 ⟨rfl, hb6⟩
        have hbe6 := hbe5.trans (hb6.mono hbe5.size)
        have HC6 := hid (HC5.out w6 hbe6)
        clear hbe5 hb6 HC4 HC5
        go_wp2_with fail
        refine HC6.out.mono ?_
        rintro e w7 ⟨rfl, hb7⟩
        have hbe7 := hbe6.trans (hb7.mono hbe6.size)
        clear hbe6 hb7 HC6
        go_wp2
        go_ret
        exact ⟨by simp, hbe7⟩
      · rw [HTW2.out hfe] at HC4
        clear HPF2 HTW2 hfe HC5
        generalize partT t k n = p at *
        generalize flatC t p c = fc at *
        generalize offT t k n = off at *
        generalize stepTy t k n = st at *
        go_wp2_with fail
        refine HC4.out.mono ?_
        rintro e w6 ⟨rfl, hb6⟩
        have hbe6 := hbe5.trans (hb6.mono hbe5.size)
        clear hbe5 hb6 HC4
        go_wp2
        go_ret
        exact ⟨by simp, hbe6⟩
    · rw [HSE.out hpe]
      have hd : (partE t k n != 0) = true := by simpa using hpe
      clear HPI HPF HTW HSB HFB HSE HLL HF HP HO HS hpe
      generalize partE t k n = pe at *
      generalize partT t k n = p at *
      generalize offT t k n = off at *
      go_wp2
      go_ret
      exact ⟨by simp, hbe5⟩
end Go.Proofs.Ytindpgejnaofkaa.FlLP
