/- Walks over flat.walk.of at []int, and flat.Fields. -/
import Derived.Test.YtindpgejnaofkaaFlW
namespace Go.Proofs.Ytindpgejnaofkaa.FlX
open Go.RowKit Go.Lib Go.Shelf SetP IntO TyM TyP TyB TyC TyD TyE TyS TyF TyH TyK TyW TyRT TyRC FlM FlP FlQ FlW Fresh

set_option maxHeartbeats 1000000 in
theorem ofW_any (B : Nat) : ∀ (t : List Ty) (tv : Value) (k : Nat) (w : World), TysAt w tv t → k < B → Fit t k →
    Calls Try.prog 27 #[fieldsV tv, .int .i64 k] w (OwnI (flatOf t k) w) := by
  induction B with
  | zero => intro t tv k w ht hk; omega
  | succ B ih =>
    intro t tv k w ht hk hf
    obtain ⟨n, x, hkn, hnt, hx, hm, hl⟩ := fit_at hf
    obtain rfl : k = n := by omega
    have IH := hid ih
    have HT := hid ht
    have HF := hid hf
    obtain ⟨hk', hx'⟩ := List.getElem?_eq_some_iff.1 hx
    have hb0 : Below w.heap.size w (w.alloc (.cells #[tv, .func (.func 25) #[] #[], .func (.func 26) #[] #[]] 50)) := (Below.refl _ _).alloc (Nat.le_refl _) _
    obtain ⟨to, tcap, rfl⟩ := ht.slice
    obtain ⟨tb, off, rfl, hlt, pv, c0, c1, c2, c3, hp⟩ := ht.at k hnt
    rw [hx'] at c0 c1 c2 hp
    have HP := hid hp
    obtain ⟨pa, pc, rfl, hpl⟩ := ints_slice hp
    have HB0 := hid hb0
    have HX := hid hx
    have HM := hid hm
    have HL := hid hl
    clear ih ht hf hx hx' hp hb0 hl
    cases hs : scalarK x.kind with
    | true =>
      rw [flatOf_scalar HX.out hs]
      have e4 : (x.kind == 4) = false := by unfold scalarK at hs; have := of_decide_eq_true hs; simp; omega
      have e5 : (x.kind == 5) = false := by unfold scalarK at hs; have := of_decide_eq_true hs; simp; omega
      have HC := hid (fun wx => alone_calls (k : Int) wx)
      clear hs hm
      generalize t.length = tn at *
      obtain ⟨xk, xe, xm, xp⟩ := x
      simp only at *
      generalize xp.length = xl at *
      go_enter Try.func27, Try.ntmps27
      go_wp2_with fail
      refine (HC.out _).mono ?_
      rintro e w1 ⟨u, m, rfl, hu, hb1⟩
      have hbe := HB0.out.alloc (by simp) (.cells #[.int .u8 xk, .int .i64 xe, .int .i64 xm, .slice pa xl pc] 43)
      have hbe1 := hbe.trans (hb1.mono hbe.size)
      have HU := hid (owns_base hu hbe.size)
      clear hu hb1
      go_wp2
      go_ret
      exact ⟨u, m, rfl, HU.out, hbe1⟩
    | false =>
      rcases not_scalar hm hs with h4 | h5
      · rw [flatOf_struct HX.out hm h4]
        have hpl8 := (mayX_struct hm h4).2.1
        have hfit : ∀ p ∈ x.parts, Fit t p ∧ p < k := fun p hp => fit_part hnt hm HL.out p (by rw [partsOf_struct h4]; exact hp)
        have HSM : Hid ((x.parts.map fun p => flatOf t p.toNat).flatten = flatAll t x.parts) := by show _ = _; unfold flatAll; rw [List.flatMap_def]
        have htot : (flatAll t x.parts).length ≤ 50000 := by
          have h1 := all_le t x.parts fun p hp => (flat_le (p.toNat + 1) p.toNat (by omega) (by have := (hfit p hp).1; rw [Int.toNat_of_nonneg this.1]; exact this)).2
          have h2 := len_fits (t := t) (l := x.parts) fun p hp => (hfit p hp).1
          omega
        have HE := hid (fun wx (hb : Below w.heap.size w wx) => eachW_calls (.slice (some ⟨tb, off, none⟩) t.length tcap) (.slice pa x.parts.length pc) x.parts (fun p => flatOf t p.toNat) wx (HP.out.below hb) (by omega) (fun p hp wy hy => by
          have h1 := hfit p hp
          have := IH.out t (.slice (some ⟨tb, off, none⟩) t.length tcap) p.toNat wy (HT.out.below (hb.trans (hy.mono hb.size))) (by have := h1.1.1; have := h1.2; omega) (by rw [Int.toNat_of_nonneg h1.1.1]; exact h1.1)
          rw [Int.toNat_of_nonneg h1.1.1] at this
          exact this))
        have HU := hid (fun u r (wx : World) (hr : r.map Prod.fst = (x.parts.map fun p => flatOf t p.toNat)) (ho : OwnR 0 u r wx) => concat_calls u r 0 wx ho (by have := congrArg List.length hr; simp at this; omega) (by rw [hr, HSM.out]; exact htot))
        have HFE := hid (fun (r : List IRow) (hr : r.map Prod.fst = (x.parts.map fun p => flatOf t p.toNat)) => (congrArg List.flatten hr).trans HSM.out)
        generalize flatAll t x.parts = fl at *
        clear hs hfit HSM htot hm
        generalize (x.parts.map fun p => flatOf t p.toNat) = gl at *
        generalize t.length = tn at *
        obtain ⟨xk, xe, xm, xp⟩ := x
        simp only at *
        subst h4
        generalize xp.length = xl at *
        go_enter Try.func27, Try.ntmps27
        go_wp2_with fail
        obtain ⟨w2, hw2⟩ : ∃ w2 : World, w2 = (w.alloc (.cells #[.slice (some ⟨tb, off, none⟩) tn tcap, .func (.func 25) #[] #[], .func (.func 26) #[] #[]] 50)).alloc (.cells #[.int .u8 4, .int .i64 xe, .int .i64 xm, .slice pa xl pc] 43) := ⟨_, rfl⟩
        rw [← hw2]
        have HB2 : Hid (Below w.heap.size w w2) := by show Below _ _ _; rw [hw2]; exact HB0.out.alloc (by simp) _
        have q0 : w2.cell? ⟨w.heap.size, 0, none⟩ = some (.slice (some ⟨tb, off, none⟩) tn tcap) := by rw [hw2]; simp
        have q1 : w2.cell? ⟨w.heap.size, 1, none⟩ = some (.func (.func 25) #[] #[]) := by rw [hw2]; simp
        have q2 : w2.cell? ⟨w.heap.size, 2, none⟩ = some (.func (.func 26) #[] #[]) := by rw [hw2]; simp
        have q3 : w2.cell? ⟨w.heap.size + 1, 3, none⟩ = some (.slice pa xl pc) := by rw [hw2]; simp
        have HD : Hid (w2.drew.cell? ⟨w.heap.size, 0, none⟩ = some (.slice (some ⟨tb, off, none⟩) tn tcap) ∧ w2.drew.cell? ⟨w.heap.size, 1, none⟩ = some (.func (.func 25) #[] #[]) ∧ w2.drew.cell? ⟨w.heap.size, 2, none⟩ = some (.func (.func 26) #[] #[]) ∧ w2.drew.cell? ⟨w.heap.size + 1, 3, none⟩ = some (.slice pa xl pc)) := ⟨q0, q1, q2, q3⟩
        clear hw2 c0 c1 c2 c3 HB0 HP IH HT HF HX HM HL q0 q1 q2 q3
        generalize hbs : w.heap.size = bs at *
        go_region_held3 (fun w' => w'.cell? ⟨bs, 0, none⟩ = some (.slice (some ⟨tb, off, none⟩) tn tcap) ∧ w'.cell? ⟨bs, 1, none⟩ = some (.func (.func 25) #[] #[]) ∧ w'.cell? ⟨bs, 2, none⟩ = some (.func (.func 26) #[] #[]) ∧ w'.cell? ⟨bs + 1, 3, none⟩ = some (.slice pa xl pc))
          (first | exact keep4 hb4 (keep4 hb HD.out) | exact keep4 hb HD.out | exact HD.out) (first | (go_at_call 44; refine (HE.out w2.drew HB2.out.drew).mono ?_; rintro e w3 ⟨u, r, rfl, hr, ho, hb⟩) | (go_at_call 26; refine (HU.out u r w3 hr (ho.base (Nat.zero_le _))).mono ?_; rintro e w4 ⟨v, m, rfl, hv, hb4⟩))
        all_goals
          have hbe := HB2.out.drew.trans (hb.mono (by have := HB2.out.drew.size; omega))
          have hbe4 := hbe.trans (hb4.mono (by have := hbe.size; omega))
          have HV := hid (owns_base (B := bs) hv (by have := hbe.size; omega))
          clear hv ho hb hb4
          rw [HFE.out r hr] at HV
          go_wp2
          go_ret
          exact ⟨v, m, rfl, by rw [hbs]; exact HV.out, by rw [hbs]; exact hbe4⟩
      · rw [flatOf_array HX.out hm h5]
        obtain ⟨_, _, h0, h1⟩ := mayX_array hm h5
        have hfe := (fit_part hnt hm HL.out x.elem (elems_parts t k hm _ (by rw [elemsOf_array h5]; simp))).1
        have HC := hid (fun wx (hb : Below w.heap.size w wx) => IH.out t (.slice (some ⟨tb, off, none⟩) t.length tcap) x.elem.toNat wx (HT.out.below hb) (by omega) (by rw [Int.toNat_of_nonneg h0]; exact hfe))
        rw [Int.toNat_of_nonneg h0] at HC
        generalize flatOf t x.elem.toNat = tot at *
        clear hs hm h0 h1 hfe
        generalize t.length = tn at *
        obtain ⟨xk, xe, xm, xp⟩ := x
        simp only at *
        subst h5
        generalize xp.length = xl at *
        have HC2 := hid (HC.out _ (HB0.out.alloc (by simp) (.cells #[.int .u8 5, .int .i64 xe, .int .i64 xm, .slice pa xl pc] 43)))
        have hbe := HB0.out.alloc (by simp) (.cells #[.int .u8 5, .int .i64 xe, .int .i64 xm, .slice pa xl pc] 43)
        go_enter Try.func27, Try.ntmps27
        go_wp2_with fail
        refine HC2.out.mono ?_
        rintro e w1 ⟨u, m, rfl, hu, hb1⟩
        have hbe1 := hbe.trans (hb1.mono hbe.size)
        have HU := hid (owns_base hu hbe.size)
        clear hb1 hu
        go_wp2
        go_ret
        exact ⟨u, m, rfl, HU.out, hbe1⟩

set_option maxHeartbeats 400000 in
theorem fields_calls (t : List Ty) (v : Value) (k : Int) (w : World) (ht : TysAt w v t) :
    Calls Try.prog 9 #[v, .int .i64 k] w (OwnER (flatT t k) (askT t k) w) := by
  have HC := hid (cells_calls t v k w ht)
  have HI : Hid (flatT t k = if askT t k = 0 then flatOf t k.toNat else []) := rfl
  have HT := hid ht
  obtain ⟨to, tcap, rfl⟩ := ht.slice
  clear ht
  rw [HI.out]
  clear HI
  by_cases h0 : askT t k = 0
  · have hf := ask_fit h0
    obtain ⟨_, _, m, x, rfl, hx, _, hcl⟩ := askT_some h0
    rw [if_pos h0, h0, Int.toNat_natCast]
    rw [h0] at HC
    have HP := hid (fun wx (hb : Below w.heap.size w wx) => ofW_any (m + 1) t _ m wx (HT.out.below hb) (by omega) hf)
    clear h0 hx hf hcl HT
    generalize t.length = n at *
    generalize flatOf t m = l at *
    generalize listT t (m : Int) = cl at *
    go_enter Try.func9, Try.ntmps9
    go_wp2_with fail
    refine HC.out.mono ?_
    rintro e w1 ⟨cv, rfl, hcv, hb1⟩
    have HP1 := hid (HP.out w1 hb1)
    clear hcv
    go_wp2_with fail
    refine HP1.out.mono ?_
    rintro e w2 ⟨u, mm, rfl, hu, hb2⟩
    have hbe := hb1.trans (hb2.mono hb1.size)
    have HU := hid (owns_base hu hb1.size)
    clear hb1 hb2 hu
    go_wp2
    go_ret2
    exact ⟨_, _, rfl, HU.out, hbe⟩
  · rw [if_neg h0]
    have hne : (askT t k != 0) = true := by simpa using h0
    generalize askT t k = er at *
    generalize t.length = n at *
    generalize listT t k = cl at *
    clear h0
    go_enter Try.func9, Try.ntmps9
    go_wp2_with fail
    refine HC.out.mono ?_
    rintro e w1 ⟨cv, rfl, hcv, hb1⟩
    clear hcv
    go_wp2
    go_ret2
    exact ⟨_, 0, rfl, World.ownsRow_nil _ _ _ _, hb1⟩
end Go.Proofs.Ytindpgejnaofkaa.FlX
