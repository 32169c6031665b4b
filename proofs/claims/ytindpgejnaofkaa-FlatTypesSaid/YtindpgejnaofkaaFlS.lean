/- Walks over fescueref04.At, Fields, Flat and Step. -/
import Derived.Test.YtindpgejnaofkaaFlR
namespace Go.Proofs.Ytindpgejnaofkaa.FlS
open Go.RowKit Go.Lib SetP IntO TyM TyP TyB TyC TyD TyE TyS TyF TyH TyK TyW TyRT TyRA TyRB TyRC TyN FlM FlQ FlW FlG FlX FlF FlR Fresh

set_option maxHeartbeats 2000000 in
theorem atR_any (N : Nat) : ∀ (t : List Ty) (v : Value) (k c : Nat) (w : World), TysAt w v t → k < N → askT t k = 0 → c < (cellsOf t k).length →
    Calls Try.prog 30 #[v, .int .i64 k, .int .i64 c] w (IntR (flatAt t k c : Nat) w) := by
  induction N with
  | zero => intro t v k c w ht hk; omega
  | succ N ih =>
    intro t v k c w ht hk hask hc
    obtain ⟨_, hlow, n, x, hkn, hx, hmay, h32⟩ := askT_some hask
    obtain rfl : k = n := by omega
    have hnt := (List.getElem?_eq_some_iff.1 hx).1
    have hfp := parts_fit hask
    rw [tyAt_some hx] at hfp
    obtain ⟨ao, cap, rfl⟩ := ht.slice
    have HT := hid ht
    obtain ⟨tb, off, rfl, hlt, pv, c0, c1, c2, c3, hp⟩ := ht.at k hnt
    obtain ⟨hk', hx'⟩ := List.getElem?_eq_some_iff.1 hx
    rw [hx'] at c0 c1 c2 hp
    have HP := hid hp
    obtain ⟨pa, pc, rfl, hpl⟩ := ints_slice hp
    have hb0 : Below w.heap.size w (w.alloc (.cells #[.int .u8 x.kind, .int .i64 x.elem, .int .i64 x.many, .slice pa x.parts.length pc] 43)) := (Below.refl _ _).alloc (Nat.le_refl _) _
    have HK := hid (alloc_new w (.cells #[.int .u8 x.kind, .int .i64 x.elem, .int .i64 x.many, .slice pa x.parts.length pc] 43))
    have HIH := hid (fun (q d : Nat) (hq : askT t q = 0) (hqk : q < k) (hd : d < (cellsOf t q).length) wx (hb : Below w.heap.size w wx) => ih t _ q d wx (HT.out.below hb) (by omega) hq hd)
    have HASK := hid (fun p (hp : p ∈ partsOf x) => ask_low hask (hfp p hp).1.1 (hfp p hp).2)
    have HOF := hid (fun (q : Nat) (hq : Fit t q) wx (hb : Below w.heap.size w wx) => of_any (q + 1) t _ q wx (HT.out.below hb) (by omega) hq)
    have HOG := hid (fun (q : Nat) (hq : Fit t q) wx (hb : Below w.heap.size w wx) => flatR_any (q + 1) t _ q wx (HT.out.below hb) (by omega) hq)
    have hA32 : flatAt t k c ≤ 32 := by
      have h1 := (at_type (k + 1) k (by omega) (ask_fit hask) c hc).1
      have h2 := (flat_le (k + 1) k (by omega) (ask_fit hask)).2
      omega
    by_cases h5 : x.kind = 5
    · rw [flatAt_array hx hmay h5] at hA32 ⊢
      have hma := mayX_array hmay h5
      have hpa := elems_parts t k hmay x.elem (by rw [elemsOf_array h5]; simp)
      obtain ⟨q, hq⟩ : ∃ q : Nat, x.elem = (q : Int) := ⟨x.elem.toNat, by omega⟩
      have haq := HASK.out _ hpa
      have hfq := (hfp _ hpa).1
      rw [hq] at haq hfq
      have hls := list_some haq
      rw [(list_at haq).1, Int.toNat_natCast] at hls
      have hlf := len_fit hfq
      rw [hq, Int.toNat_natCast]
      rw [Int.toNat_natCast] at hlf
      obtain ⟨w2, hw2⟩ : ∃ w2 : World, w2 = w.alloc (.cells #[.int .u8 x.kind, .int .i64 x.elem, .int .i64 x.many, .slice pa x.parts.length pc] 43) := ⟨_, rfl⟩
      have y1 : w2.cell? ⟨w.heap.size, 1, none⟩ = some (.int .i64 x.elem) := by rw [hw2]; simp
      have hbe1 := hb0
      rw [← hw2] at hbe1
      have HBE := hid hbe1
      have HO1 := hid (HOF.out q hfq w2.drew hbe1.drew)
      have HAT := hid (fun wx hb => HIH.out q (c % (cellsOf t q).length) haq (by omega) (Nat.mod_lt _ (by omega)) wx hb)
      have hmod := Nat.mod_lt c (show 0 < (cellsOf t q).length by omega)
      generalize flatAt t q (c % (cellsOf t q).length) = A at *
      generalize cellsOf t q = cl at *
      clear ih hp hx hx' hmay ht hask hnt HIH HK hma hpa haq hfq HASK HOF HOG hlow hfp hb0 HP
      obtain ⟨xk, xe, xm, xp⟩ := x
      simp only at *
      subst h5
      subst hq
      generalize t.length = tn at *
      generalize xp.length = pl at *
      have hrem := tmod_nat c cl.length
      have hm1 : ¬ cl.length = 0 := by omega
      have hm2 : ¬ cl = [] := by intro e; rw [e] at hls; simp at hls
      have hc9 : c ≤ 100000 := by omega
      have hwr : IntKind.i64.wrap ((c % cl.length : Nat) : Int) = ((c % cl.length : Nat) : Int) := by rw [IntKind.wrap_i64]; omega
      generalize hmd : c % cl.length = md at *
      have HSY : Hid (w2.drew.cell? ⟨w.heap.size, 1, none⟩ = some (.int .i64 (q : Int))) := y1
      go_enter Try.func30, Try.ntmps30
      go_wp2_with fail
      rw [← hw2]
      clear hw2 hpl c0 c1 c2 c3
      generalize hbs : w.heap.size = bs at *
      go_region_held3 (fun w' => w'.cell? ⟨bs, 1, none⟩ = some (.int .i64 (q : Int)))
        (first | exact keep_below hb4 (keep_below hb HSY.out) | exact keep_below hb HSY.out | exact HSY.out) (first | (go_at_call 46; refine HO1.out.mono ?_; rintro e w3 ⟨u, m, rfl, hu, hb⟩; have hml := own_len hu; subst hml; obtain ⟨ua, uc, hue⟩ := own_slice hu; subst hue; have hbe3 := HBE.out.drew.trans (hb.mono (by have := HBE.out.drew.size; omega))) | (go_at_call 30; refine (HAT.out w3 hbe3).mono ?_; rintro e w4 ⟨rfl, hb4⟩))
      all_goals
        have hbe4 := hbe3.trans (hb4.mono (by have := hbe3.size; omega))
        clear hb hb4 hu
        go_wp2
        go_ret
        exact ⟨rfl, by rw [hbs]; exact hbe4⟩
    by_cases h4 : x.kind = 4
    · have hcells := cellsOf_parts hx (.inl h4) (mayX_low hmay)
      rw [partsOf_struct h4] at hcells HASK hfp
      rw [hcells] at hc h32
      have hm8 := mayX_struct hmay h4
      have HOFF := hid (fun i (h : i < x.parts.length) => off_next t x.parts h)
      have HFLT := hid (fun i (h : i < x.parts.length) => congrArg List.length (flatAll_take t h))
      have HFB := hid (fun i => Nat.le_trans (fall_part t x.parts i) (fall_fit fun p hp => (hfp p hp).1))
      have HAT := hid (fun i (h : i < x.parts.length) d hd => (flatAt_struct hx hmay h4 _).trans (in_at t x.parts i d h hd))
      have HFP := hid (fun i (h : i < x.parts.length) => (hfp _ (List.getElem_mem h)).1)
      have HLO := hid (fun i (h : i < x.parts.length) => hm8.2.2 _ (List.getElem_mem h))
      have HAS := hid (fun i (h : i < x.parts.length) => HASK.out _ (List.getElem_mem h))
      have e5 : (x.kind == 5) = false := by simp; omega
      generalize hA : flatAt t k c = A at *
      have HA := hid hA
      clear ih hp hx hx' hmay hlow ht hfp hkn hnt hask HASK hA h5 hm8 hcells
      obtain ⟨xk, xe, xm, xp⟩ := x
      simp only at *
      subst h4
      generalize htl : (cellsAll t xp).length = tot at *
      have HTL := hid htl
      clear htl
      generalize t.length = n at *
      go_enter Try.func30, Try.ntmps30
      go_wp2
      go_loopg [2, 8, 9] xp.length (fun gk cv av iv wr => ∃ i cc ah : Nat, i + gk = xp.length ∧ cv = .int .i64 cc ∧ av = .int .i64 ah ∧ iv = .int .i64 i ∧ c = (cellsAll t (xp.take i)).length + cc ∧ ah = (flatAll t (xp.take i)).length ∧ Below w.heap.size w wr ∧ wr.heap[w.heap.size]? = some (.cells #[.int .u8 4, .int .i64 xe, .int .i64 xm, .slice pa xp.length pc] 43 (0, 0)))
      case atStart => exact ⟨0, c, 0, by omega, rfl, rfl, rfl, by simp [cellsAll], by simp [flatAll], hb0, HK.out⟩
      case round =>
        obtain ⟨i, cc, ah, hi, rfl, rfl, rfl, hcc, hah, hbe, hkk⟩ := hrel
        have HI := hid hi
        have HKK := hid hkk
        obtain ⟨cf, _, _, _⟩ := copy_facts hkk (Below.refl _ _)
        have d3 := cf 3 (by simp)
        simp only [List.getElem_toArray, List.getElem_cons_succ, List.getElem_cons_zero] at d3
        clear hkk cf hi
        by_cases hlt2 : i < xp.length
        · obtain ⟨b, o, rfl, hbs, hcp⟩ := ints_at (HP.out.below hbe) i hlt2
          have hof := HOFF.out i hlt2
          have hfl := HFLT.out i hlt2
          rw [List.length_append] at hfl
          have hfb := HFB.out (i + 1)
          have hlo := HLO.out i hlt2
          have hfp := HFP.out i hlt2
          have has := HAS.out i hlt2
          have hat := HAT.out i hlt2 cc
          generalize xp[i] = p at *
          obtain ⟨q, rfl⟩ : ∃ q : Nat, p = q := ⟨p.toNat, by omega⟩
          rw [Int.toNat_natCast] at hof hfl hat
          have HC := hid (HOF.out q hfp wr hbe)
          have HAT2 := hid hat
          have HIH2 := hid (fun hd wx hb => HIH.out q cc has (by omega) hd wx hb)
          have HOG2 := hid (fun wx hb => HOG.out q hfp wx hb)
          have HOF2 := hid hof
          have HFL2 := hid hfl
          rw [hfl] at hfb
          clear hfp has hat hfl
          generalize cellsOf t q = cq at *
          generalize flatOf t q = fq at *
          by_cases hd : cc < cq.length
          · have HI3 := hid (HIH2.out hd)
            have hA2 := HAT2.out hd
            rw [← hcc, HA.out, ← hah] at hA2
            generalize flatAt t q cc = a2 at *
            have hah9 : ah ≤ 32 := by omega
            have ha29 : a2 ≤ 32 := by omega
            have HAI : Hid ((A : Int) = (ah : Int) + a2) := by show _ = _; omega
            clear hA2
            clear HIH2 HAT2 hcc hah hof
            go_wp2_with fail
            refine HC.out.mono ?_
            rintro e w1 ⟨u, m2, rfl, hu, hb1⟩
            have hml := own_len hu
            subst hml
            obtain ⟨ua, uc, rfl⟩ := own_slice hu
            have hbe1 := hbe.trans (hb1.mono hbe.size)
            have HK1 := hid ((hb1.block _ (Array.getElem?_eq_some_iff.1 HKK.out).1).trans HKK.out)
            have HI4 := hid (HI3.out w1 hbe1)
            have d3 := keep_below hb1 d3
            have hcp := keep_below hb1 hcp
            clear hu hb1 hbe HC
            go_wp2_with fail
            refine HI4.out.mono ?_
            rintro e w2 ⟨rfl, hb2⟩
            have hbe2 := hbe1.trans (hb2.mono hbe1.size)
            clear hb2
            go_wp2
            go_ret
            exact ⟨by rw [HAI.out]; rfl, hbe2⟩
          · have hd2 : ¬ (cc : Int) < cq.length := by omega
            have HC2 : Hid (c = (cellsAll t (xp.take (i + 1))).length + (cc - cq.length)) := by show _ = _; rw [HOF2.out]; omega
            have HA2 : Hid (ah + fq.length = (flatAll t (xp.take (i + 1))).length) := by show _ = _; rw [HFL2.out, hah]
            have hcc9 : cc ≤ 100000 := by omega
            have hah9 : ah + fq.length ≤ 100000 := by omega
            clear HIH2 HAT2 hcc hah hof hfb hd
            go_wp2_with fail
            refine HC.out.mono ?_
            rintro e w1 ⟨u, m2, rfl, hu, hb1⟩
            have hml := own_len hu
            subst hml
            obtain ⟨ua, uc, rfl⟩ := own_slice hu
            have hbe1 := hbe.trans (hb1.mono hbe.size)
            have HK1 := hid ((hb1.block _ (Array.getElem?_eq_some_iff.1 HKK.out).1).trans HKK.out)
            have HOG3 := hid (HOG2.out w1 hbe1)
            have d3 := keep_below hb1 d3
            have hcp := keep_below hb1 hcp
            clear hu hb1 hbe HC
            go_wp2_with fail
            refine HOG3.out.mono ?_
            rintro e w2 ⟨u2, m3, rfl, hu, hb2⟩
            have hml := own_len hu
            subst hml
            obtain ⟨ua2, uc2, rfl⟩ := own_slice hu
            have hbe2 := hbe1.trans (hb2.mono hbe1.size)
            have HK2 := hid ((hb2.block _ (Array.getElem?_eq_some_iff.1 HK1.out).1).trans HK1.out)
            clear hu hb2 hbe1
            go_wp2
            go_roundg (gk - 1)
            case measure => have := HI.out; omega
            case rel => exact ⟨i + 1, cc - cq.length, ah + fq.length, by have := HI.out; omega, by go_num, by go_num, by go_num, HC2.out, HA2.out, hbe2, HK2.out⟩
        · obtain rfl : i = xp.length := by have := HI.out; omega
          rw [List.take_length, HTL.out] at hcc
          exfalso; omega
    · have hs : scalarK x.kind = true := by
        rcases mayX_kind hmay with h | h | h
        · exact h
        · exact absurd h h4
        · exact absurd h h5
      rw [flatAt_scalar hx hs]
      have e4 : (x.kind != 4) = true := by simpa using h4
      have e5 : (x.kind == 5) = false := by simpa using h5
      clear ih hp hx hx' hmay hlow ht hkn hnt HIH HK h4 h5 hs HASK HOF HOG hask hfp hA32 hc h32
      obtain ⟨xk, xe, xm, xp⟩ := x
      simp only at *
      generalize t.length = n at *
      generalize xp.length = pl at *
      go_enter Try.func30, Try.ntmps30
      go_wp2
      go_ret
      exact ⟨rfl, hb0⟩
end Go.Proofs.Ytindpgejnaofkaa.FlS
