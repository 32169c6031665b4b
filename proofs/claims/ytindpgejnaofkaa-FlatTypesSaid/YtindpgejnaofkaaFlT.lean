/- Walks over fescueref04.Fields, Flat and Step. -/
import Derived.Test.YtindpgejnaofkaaFlS
namespace Go.Proofs.Ytindpgejnaofkaa.FlT
open Go.RowKit Go.Lib SetP IntO TyM TyP TyB TyC TyD TyE TyS TyF TyH TyK TyW TyRT TyRA TyRB TyRC TyN FlM FlQ FlW FlG FlX FlF FlR FlS Fresh

set_option maxHeartbeats 400000 in
theorem fieldsR_calls (t : List Ty) (v : Value) (k : Int) (w : World) (ht : TysAt w v t) : Calls Try.prog 14 #[v, .int .i64 k] w (OwnER (flatT t k) (askT t k) w) := by
  have HC := hid (cellsR_calls t v k w ht)
  have HI : Hid (flatT t k = if askT t k = 0 then flatOf t k.toNat else []) := rfl
  have HT := hid ht
  obtain ⟨to, tcap, rfl⟩ := ht.slice
  clear ht
  rw [HI.out]
  clear HI
  by_cases h0 : askT t k = 0
  · have hf := ask_fit h0
    obtain ⟨_, _, m, x, rfl, hx, _, hcl⟩ := askT_some h0
    rw [if_pos h0, h0, Int.toNat_natCast]
    rw [h0] at HC
    have HP := hid (fun wx (hb : Below w.heap.size w wx) => flatR_any (m + 1) t _ m wx (HT.out.below hb) (by omega) hf)
    clear h0 hx hf hcl HT
    generalize t.length = n at *
    generalize flatOf t m = l at *
    generalize listT t (m : Int) = cl at *
    go_enter Try.func14, Try.ntmps14
    go_wp2_with fail
    refine HC.out.mono ?_
    rintro e w1 ⟨cv, rfl, hcv, hb1⟩
    have HP1 := hid (HP.out w1 hb1)
    clear hcv
    go_wp2_with fail
    refine HP1.out.mono ?_
    rintro e w2 ⟨u, mm, rfl, hu, hb2⟩
    have hbe := hb1.trans (hb2.mono hb1.size)
    have HU := hid (owns_base hu hb1.size)
    clear hb1 hb2 hu
    go_wp2
    go_ret2
    exact ⟨_, _, rfl, HU.out, hbe⟩
  · rw [if_neg h0]
    have hne : (askT t k != 0) = true := by simpa using h0
    generalize askT t k = er at *
    generalize t.length = n at *
    generalize listT t k = cl at *
    clear h0
    go_enter Try.func14, Try.ntmps14
    go_wp2_with fail
    refine HC.out.mono ?_
    rintro e w1 ⟨cv, rfl, hcv, hb1⟩
    clear hcv
    go_wp2
    go_ret2
    exact ⟨_, 0, rfl, World.ownsRow_nil _ _ _ _, hb1⟩

set_option maxHeartbeats 1000000 in
theorem flatR_calls (t : List Ty) (v : Value) (k c : Int) (w : World) (ht : TysAt w v t) :
    Calls Try.prog 15 #[v, .int .i64 k, .int .i64 c] w (IntER (flatC t k c) (flatE t k c) w) := by
  have HC := hid (cellsR_calls t v k w ht)
  have HI : Hid (flatC t k c = if flatE t k c = 0 then ((flatAt t k.toNat c.toNat : Nat) : Int) else 0) := rfl
  have HT := hid ht
  obtain ⟨to, tcap, rfl⟩ := ht.slice
  rw [HI.out]
  clear HI ht
  by_cases ha : askT t k = 0
  · rw [ha] at HC
    by_cases hc : 0 ≤ c ∧ c < (listT t k).length
    · rw [if_pos (flatE_in ha hc), flatE_in ha hc]
      obtain ⟨_, _, q, x, rfl, hx, hm, h32⟩ := askT_some ha
      obtain ⟨d, rfl⟩ : ∃ d : Nat, c = d := ⟨c.toNat, by omega⟩
      rw [(list_at ha).1] at HC hc
      rw [Int.toNat_natCast] at HC hc
      rw [Int.toNat_natCast, Int.toNat_natCast]
      have HAT := hid (fun wx (hb : Below w.heap.size w wx) => atR_any (q + 1) t _ q d wx (HT.out.below hb) (by omega) ha (by omega))
      clear hx hm ha HT
      generalize flatAt t q d = A at *
      generalize cellsOf t q = cl at *
      generalize t.length = tn at *
      go_enter Try.func15, Try.ntmps15
      go_wp2_with fail
      refine HC.out.mono ?_
      rintro e w1 ⟨cv, rfl, hcv, hb1⟩
      obtain ⟨ca, cc, rfl, _⟩ := ints_slice hcv
      have HAT1 := hid (HAT.out w1 hb1)
      clear hcv HC HAT
      go_wp2_with fail
      all_goals (try (exfalso; omega))
      refine HAT1.out.mono ?_
      rintro e w2 ⟨rfl, hb2⟩
      have hbe := hb1.trans (hb2.mono hb1.size)
      clear hb1 hb2
      go_wp2
      go_ret2
      exact ⟨rfl, hbe⟩
    · rw [flatE_out ha hc, if_neg (by decide)]
      clear HT ha
      generalize listT t k = cl at *
      generalize t.length = tn at *
      by_cases h0 : c < 0
      · clear hc
        go_enter Try.func15, Try.ntmps15
        go_wp2_with fail
        refine HC.out.mono ?_
        rintro e w1 ⟨cv, rfl, hcv, hb1⟩
        obtain ⟨ca, cc, rfl, _⟩ := ints_slice hcv
        clear hcv HC
        go_wp2
        all_goals (try (exfalso; omega))
        go_ret2
        exact ⟨rfl, hb1⟩
      · have h1 : (cl.length : Int) ≤ c := by omega
        clear hc
        go_enter Try.func15, Try.ntmps15
        go_wp2_with fail
        refine HC.out.mono ?_
        rintro e w1 ⟨cv, rfl, hcv, hb1⟩
        obtain ⟨ca, cc, rfl, _⟩ := ints_slice hcv
        clear hcv HC
        go_wp2
        all_goals (try (exfalso; omega))
        go_ret2
        exact ⟨rfl, hb1⟩
  · rw [flatE_err ha, if_neg ha]
    have hne : (askT t k != 0) = true := by simpa using ha
    clear HT ha
    generalize listT t k = cl at *
    generalize askT t k = er at *
    generalize t.length = tn at *
    go_enter Try.func15, Try.ntmps15
    go_wp2_with fail
    refine HC.out.mono ?_
    rintro e w1 ⟨cv, rfl, hcv, hb1⟩
    obtain ⟨ca, cc, rfl, _⟩ := ints_slice hcv
    clear hcv HC
    go_wp2
    go_ret2
    exact ⟨rfl, hb1⟩

set_option maxHeartbeats 1000000 in
theorem stepR_calls (t : List Ty) (v : Value) (k n : Int) (w : World) (ht : TysAt w v t) :
    Calls Try.prog 16 #[v, .int .i64 k, .int .i64 n] w (IntER (stepTy t k n) (partE t k n) w) := by
  have HC := hid (partR_calls t v k n w ht)
  have HI : Hid (stepTy t k n = if partE t k n = 0 then ((stepX t (tyAt t k) n.toNat : Nat) : Int) else 0) := rfl
  have HT := hid ht
  obtain ⟨to, tcap, rfl⟩ := ht.slice
  rw [HI.out]
  clear HI
  by_cases h0 : partE t k n = 0
  · rw [if_pos h0, h0]
    rw [h0] at HC
    obtain ⟨ha, hn0, hn1⟩ := partE_zero h0
    obtain ⟨_, hlows, q, x, rfl, hx, hm, _⟩ := askT_some ha
    obtain ⟨m, rfl⟩ : ∃ m : Nat, n = m := ⟨n.toNat, by omega⟩
    rw [tyAt_some hx] at hn1 ⊢
    rw [Int.toNat_natCast]
    have HTO := hid (fun wx (hb : Below w.heap.size w wx) => toR_calls t _ q m x wx (HT.out.below hb) ha hx (by omega))
    clear ht hx hm ha HT h0 hlows hn1
    generalize stepX t x m = A at *
    generalize partT t q m = pt at *
    generalize t.length = tn at *
    go_enter Try.func16, Try.ntmps16
    go_wp2_with fail
    refine HC.out.mono ?_
    rintro e w1 ⟨rfl, hb1⟩
    have HTO1 := hid (HTO.out w1 hb1)
    clear HC HTO
    go_wp2_with fail
    refine HTO1.out.mono ?_
    rintro e w2 ⟨rfl, hb2⟩
    have hbe := hb1.trans (hb2.mono hb1.size)
    clear hb1 hb2
    go_wp2
    go_ret2
    exact ⟨rfl, hbe⟩
  · rw [if_neg h0]
    have hne : (partE t k n != 0) = true := by simpa using h0
    clear HT ht h0
    generalize partE t k n = er at *
    generalize partT t k n = pt at *
    generalize t.length = tn at *
    go_enter Try.func16, Try.ntmps16
    go_wp2_with fail
    refine HC.out.mono ?_
    rintro e w1 ⟨rfl, hb1⟩
    go_wp2
    go_ret2
    exact ⟨rfl, hb1⟩
end Go.Proofs.Ytindpgejnaofkaa.FlT
