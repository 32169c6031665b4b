/- Walks over flat.walk.of at int, and flat.many. -/
import Derived.Test.YtindpgejnaofkaaFlP
namespace Go.Proofs.Ytindpgejnaofkaa.FlQ
open Go.RowKit Go.Lib Go.Shelf SetP IntO TyM TyP TyB TyC TyD TyE TyS TyF TyH TyK TyRT FlM FlP Fresh

theorem keep_alloc {w : World} {a : Addr} {v : Value} {o : Obj} (h : w.cell? a = some v) : (w.alloc o).cell? a = some v := by
  have := World.block_lt_of_cell? w a h
  exact (World.cell?_of_block (w := w) (Below.heap_alloc w o a.block this)).trans h
theorem keep_drew {w : World} {a : Addr} {v : Value} (h : w.cell? a = some v) : w.drew.cell? a = some v := h
theorem keep_below {w w' : World} {a : Addr} {v : Value} (hb : Below w.heap.size w w') (h : w.cell? a = some v) : w'.cell? a = some v := (hb.cell (World.block_lt_of_cell? w a h)).trans h

theorem keep4 {w w' : World} (hb : Below w.heap.size w w') {a b c d : Addr} {x y z u : Value} (h : w.cell? a = some x ∧ w.cell? b = some y ∧ w.cell? c = some z ∧ w.cell? d = some u) : w'.cell? a = some x ∧ w'.cell? b = some y ∧ w'.cell? c = some z ∧ w'.cell? d = some u :=
  ⟨keep_below hb h.1, keep_below hb h.2.1, keep_below hb h.2.2.1, keep_below hb h.2.2.2⟩
theorem sum_len (t : List Ty) : ∀ (l : List Int), (l.map fun p => ((flatOf t p.toNat).length : Int)).sum = ((flatAll t l).length : Nat)
  | [] => by simp [flatAll]
  | p :: l => by
    rw [List.map_cons, List.sum_cons, sum_len t l, flatAll_cons, List.length_append]; omega

set_option maxHeartbeats 1000000 in
theorem ofI_any (B : Nat) : ∀ (t : List Ty) (tv : Value) (k : Nat) (w : World), TysAt w tv t → k < B → Fit t k →
    Calls Try.prog 42 #[manyV tv, .int .i64 k] w (IntR ((flatOf t k).length : Nat) w) := by
  induction B with
  | zero => intro t tv k w ht hk; omega
  | succ B ih =>
    intro t tv k w ht hk hf
    obtain ⟨n, x, hkn, hnt, hx, hm, hl⟩ := fit_at hf
    obtain rfl : k = n := by omega
    have IH := hid ih
    have HT := hid ht
    have HF := hid hf
    obtain ⟨hk', hx'⟩ := List.getElem?_eq_some_iff.1 hx
    have hb0 : Below w.heap.size w (w.alloc (.cells #[tv, .func (.func 39) #[] #[], .func (.func 40) #[] #[]] 64)) := (Below.refl _ _).alloc (Nat.le_refl _) _
    obtain ⟨to, tcap, rfl⟩ := ht.slice
    obtain ⟨tb, off, rfl, hlt, pv, c0, c1, c2, c3, hp⟩ := ht.at k hnt
    rw [hx'] at c0 c1 c2 hp
    have HP := hid hp
    obtain ⟨pa, pc, rfl, hpl⟩ := ints_slice hp
    have HB0 := hid hb0
    have HX := hid hx
    have HM := hid hm
    have HL := hid hl
    clear ih ht hf hx hx' hp hb0 hl
    cases hs : scalarK x.kind with
    | true =>
      rw [flatOf_scalar HX.out hs]
      have e4 : (x.kind == 4) = false := by unfold scalarK at hs; have := of_decide_eq_true hs; simp; omega
      have e5 : (x.kind == 5) = false := by unfold scalarK at hs; have := of_decide_eq_true hs; simp; omega
      have HC := hid (fun wx => one_calls (k : Int) wx)
      clear hs hm
      generalize t.length = tn at *
      obtain ⟨xk, xe, xm, xp⟩ := x
      simp only at *
      generalize xp.length = xl at *
      go_enter Try.func42, Try.ntmps42
      go_wp2_with fail
      refine (HC.out _).mono ?_
      rintro e w1 ⟨rfl, rfl⟩
      go_wp2
      go_ret
      exact ⟨by simp, HB0.out.alloc (by simp) _⟩
    | false =>
      rcases not_scalar hm hs with h4 | h5
      · rw [flatOf_struct HX.out hm h4]
        have hpl8 := (mayX_struct hm h4).2.1
        have hfit : ∀ p ∈ x.parts, Fit t p ∧ p < k := fun p hp => fit_part hnt hm HL.out p (by rw [partsOf_struct h4]; exact hp)
        have HSM : Hid ((x.parts.map fun p => ((flatOf t p.toNat).length : Int)).sum = ((flatAll t x.parts).length : Nat)) := sum_len t x.parts
        have HSB : Hid (∀ y ∈ x.parts.map (fun p => ((flatOf t p.toNat).length : Int)), 0 ≤ y ∧ y ≤ 1000) := by
          intro y hy
          obtain ⟨p, hp, rfl⟩ := List.mem_map.1 hy
          have h1 := (hfit p hp).1
          have h2 := (flat_le (p.toNat + 1) p.toNat (by omega) (by rw [Int.toNat_of_nonneg h1.1]; exact h1)).2
          have h3 := len_fit h1
          omega
        have HE := hid (fun wx (hb : Below w.heap.size w wx) => eachI_calls (.slice (some ⟨tb, off, none⟩) t.length tcap) (.slice pa x.parts.length pc) x.parts (fun p => ((flatOf t p.toNat).length : Int)) wx (HP.out.below hb) (by omega) (fun p hp wy hy => by
          have h1 := hfit p hp
          have := IH.out t (.slice (some ⟨tb, off, none⟩) t.length tcap) p.toNat wy (HT.out.below (hb.trans (hy.mono hb.size))) (by have := h1.1.1; have := h1.2; omega) (by rw [Int.toNat_of_nonneg h1.1.1]; exact h1.1)
          rw [Int.toNat_of_nonneg h1.1.1] at this
          exact this))
        have HU := hid (fun u m (wx wy : World) (ho : wx.ownsRow 0 3 1 u m (intVals (x.parts.map fun p => ((flatOf t p.toNat).length : Int)))) (hb : Below wx.heap.size wx wy) => sum_calls u _ wy (intsAt_of_owns (ownsRow_below ho hb) (by rw [List.length_map]; omega)) HSB.out (by rw [List.length_map]; omega))
        rw [HSM.out] at HU
        generalize (flatAll t x.parts).length = tot at *
        clear hs hfit HSM HSB hm
        generalize hgl : (x.parts.map fun p => ((flatOf t p.toNat).length : Int)) = gl at *
        clear hgl
        generalize t.length = tn at *
        obtain ⟨xk, xe, xm, xp⟩ := x
        simp only at *
        subst h4
        generalize xp.length = xl at *
        go_enter Try.func42, Try.ntmps42
        go_wp2_with fail
        obtain ⟨w2, hw2⟩ : ∃ w2 : World, w2 = (w.alloc (.cells #[.slice (some ⟨tb, off, none⟩) tn tcap, .func (.func 39) #[] #[], .func (.func 40) #[] #[]] 64)).alloc (.cells #[.int .u8 4, .int .i64 xe, .int .i64 xm, .slice pa xl pc] 43) := ⟨_, rfl⟩
        rw [← hw2]
        have HB2 : Hid (Below w.heap.size w w2) := by show Below _ _ _; rw [hw2]; exact HB0.out.alloc (by simp) _
        have q0 : w2.cell? ⟨w.heap.size, 0, none⟩ = some (.slice (some ⟨tb, off, none⟩) tn tcap) := by rw [hw2]; simp
        have q1 : w2.cell? ⟨w.heap.size, 1, none⟩ = some (.func (.func 39) #[] #[]) := by rw [hw2]; simp
        have q2 : w2.cell? ⟨w.heap.size, 2, none⟩ = some (.func (.func 40) #[] #[]) := by rw [hw2]; simp
        have q3 : w2.cell? ⟨w.heap.size + 1, 3, none⟩ = some (.slice pa xl pc) := by rw [hw2]; simp
        have HD : Hid (w2.drew.cell? ⟨w.heap.size, 0, none⟩ = some (.slice (some ⟨tb, off, none⟩) tn tcap) ∧ w2.drew.cell? ⟨w.heap.size, 1, none⟩ = some (.func (.func 39) #[] #[]) ∧ w2.drew.cell? ⟨w.heap.size, 2, none⟩ = some (.func (.func 40) #[] #[]) ∧ w2.drew.cell? ⟨w.heap.size + 1, 3, none⟩ = some (.slice pa xl pc)) := ⟨q0, q1, q2, q3⟩
        clear hw2 c0 c1 c2 c3 HB0 HP IH HT HF HX HM HL q0 q1 q2 q3
        generalize hbs : w.heap.size = bs at *
        go_region_held3 (fun w' => w'.cell? ⟨bs, 0, none⟩ = some (.slice (some ⟨tb, off, none⟩) tn tcap) ∧ w'.cell? ⟨bs, 1, none⟩ = some (.func (.func 39) #[] #[]) ∧ w'.cell? ⟨bs, 2, none⟩ = some (.func (.func 40) #[] #[]) ∧ w'.cell? ⟨bs + 1, 3, none⟩ = some (.slice pa xl pc))
          (first | exact keep4 hb4 (keep4 hb HD.out) | exact keep4 hb HD.out | exact HD.out) (first | (go_at_call 41; refine (HE.out w2.drew HB2.out.drew).mono ?_; rintro e w3 ⟨u, m, rfl, ho, hb⟩) | (go_at_call 40; refine (HU.out u m w3 w3 (owns_base ho (Nat.zero_le _)) (Below.refl _ _)).mono ?_; rintro e w4 ⟨rfl, hb4⟩))
        all_goals
          have hbe := HB2.out.drew.trans (hb.mono (by have := HB2.out.drew.size; omega))
          have hbe4 := hbe.trans (hb4.mono (by have := hbe.size; omega))
          go_wp2
          go_ret
          exact ⟨rfl, by rw [hbs]; exact hbe4⟩
      · rw [flatOf_array HX.out hm h5]
        obtain ⟨_, _, h0, h1⟩ := mayX_array hm h5
        have hfe := (fit_part hnt hm HL.out x.elem (elems_parts t k hm _ (by rw [elemsOf_array h5]; simp))).1
        have HC := hid (fun wx (hb : Below w.heap.size w wx) => IH.out t (.slice (some ⟨tb, off, none⟩) t.length tcap) x.elem.toNat wx (HT.out.below hb) (by omega) (by rw [Int.toNat_of_nonneg h0]; exact hfe))
        rw [Int.toNat_of_nonneg h0] at HC
        generalize (flatOf t x.elem.toNat).length = tot at *
        clear hs hm h0 h1 hfe
        generalize t.length = tn at *
        obtain ⟨xk, xe, xm, xp⟩ := x
        simp only at *
        subst h5
        generalize xp.length = xl at *
        have HC2 := hid (HC.out _ (HB0.out.alloc (by simp) (.cells #[.int .u8 5, .int .i64 xe, .int .i64 xm, .slice pa xl pc] 43)))
        have hbe := HB0.out.alloc (by simp) (.cells #[.int .u8 5, .int .i64 xe, .int .i64 xm, .slice pa xl pc] 43)
        go_enter Try.func42, Try.ntmps42
        go_wp2_with fail
        refine HC2.out.mono ?_
        rintro e w1 ⟨rfl, hb1⟩
        have hbe1 := hbe.trans (hb1.mono hbe.size)
        clear hb1
        go_wp2
        go_ret
        exact ⟨rfl, hbe1⟩

set_option maxHeartbeats 1000000 in
/-- how many flat fields some types have -/
theorem many_calls (t : List Ty) (tv va : Value) (l : List Int) (w : World) (ht : TysAt w tv t) (hl : IntsAt w va l) (hlen : l.length ≤ 16) (hf : ∀ p ∈ l, Fit t p) :
    Calls Try.prog 23 #[tv, va] w (IntR ((flatAll t l).length : Nat) w) := by
  have HS : Hid (∀ p ∈ l, 0 ≤ ((flatOf t p.toNat).length : Int) ∧ ((flatOf t p.toNat).length : Int) ≤ 1000) := fun p hp => by
    have h1 := hf p hp
    have h2 := (flat_le (p.toNat + 1) p.toNat (by omega) (by rw [Int.toNat_of_nonneg h1.1]; exact h1)).2
    have h3 := len_fit h1
    omega
  have HE := hid (eachI_calls tv va l (fun p => ((flatOf t p.toNat).length : Int)) w hl (by omega) (fun p hp wx hb => by
    have h1 := hf p hp
    have := ofI_any (p.toNat + 1) t tv p.toNat wx (ht.below hb) (by omega) (by rw [Int.toNat_of_nonneg h1.1]; exact h1)
    rw [Int.toNat_of_nonneg h1.1] at this
    exact this))
  have HU := hid (fun u m (wx : World) (ho : wx.ownsRow w.heap.size 3 1 u m (intVals (l.map fun p => ((flatOf t p.toNat).length : Int)))) => sum_calls u _ wx (intsAt_of_owns ho (by rw [List.length_map]; omega)) (fun y hy => by obtain ⟨p, hp, rfl⟩ := List.mem_map.1 hy; exact HS.out p hp) (by rw [List.length_map]; omega))
  rw [sum_len] at HU
  generalize (l.map fun p => ((flatOf t p.toNat).length : Int)) = gl at *
  obtain ⟨to, tcap, rfl⟩ := ht.slice
  obtain ⟨ao, cap, rfl, hll⟩ := ints_slice hl
  clear ht hl hf HS
  generalize (flatAll t l).length = tot at *
  generalize t.length = tn at *
  generalize l.length = ln at *
  go_enter Try.func23, Try.ntmps23
  go_wp2_with fail
  refine HE.out.mono ?_
  rintro e w1 ⟨u, m, rfl, ho, hb1⟩
  have HU1 := hid (HU.out u m w1 ho)
  clear ho HU HE
  go_wp2_with fail
  refine HU1.out.mono ?_
  rintro e w2 ⟨rfl, hb2⟩
  have hbe := hb1.trans (hb2.mono hb1.size)
  clear hb1 hb2
  go_wp2
  go_ret
  exact ⟨rfl, hbe⟩
end Go.Proofs.Ytindpgejnaofkaa.FlQ
