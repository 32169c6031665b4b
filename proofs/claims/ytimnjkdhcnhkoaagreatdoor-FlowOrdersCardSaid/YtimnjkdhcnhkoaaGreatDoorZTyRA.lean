/- Walks over fescueref03.Plain, lower, mayFn and mayType. -/
import Derived.Test.YtimnjkdhcnhkoaaGreatDoorZTyD
import Derived.LoopTactic
namespace Go.Proofs.YtimnjkdhcnhkoaaGreatDoor.TyRA
open Go.RowKit Go.Lib SetP IntO TyM TyP TyB TyC TyD

set_option maxHeartbeats 400000 in
theorem plain_calls (t : List Ty) (v : Value) (n : Int) (w : World) (ht : TysAt w v t) :
    Calls Tryz.prog 107 #[v, .int .i64 n] w (BoolR (plainB t n) w) := by
  obtain ⟨ao, cap, rfl⟩ := ht.slice
  by_cases h0 : n < 0
  · have hp : plainB t n = false := by unfold plainB; simp; intro h; omega
    rw [hp]
    clear ht hp
    generalize t.length = tl at *
    go_enter Tryz.func107, Tryz.ntmps107
    go_wp2
    go_ret
    exact ⟨rfl, Below.refl _ _⟩
  by_cases h1 : (t.length : Int) ≤ n
  · have hp : plainB t n = false := by
      cases h : plainB t n with
      | false => rfl
      | true => have := plainB_low h; omega
    rw [hp]
    clear ht hp
    generalize t.length = tl at *
    go_enter Tryz.func107, Tryz.ntmps107
    go_wp2
    all_goals (try (exfalso; omega))
    go_ret
    exact ⟨rfl, Below.refl _ _⟩
  obtain ⟨k, rfl⟩ : ∃ k : Nat, n = k := ⟨n.toNat, by omega⟩
  have hk : k < t.length := by omega
  rw [plainB_at (List.getElem?_eq_getElem hk)]
  obtain ⟨tb, off, rfl, hlt, pv, c0, c1, c2, c3, hp⟩ := ht.at k hk
  have HD : Hid (scalarK t[k].kind = decide (t[k].kind = 1 ∨ t[k].kind = 2 ∨ t[k].kind = 3)) := rfl
  rw [HD.out]
  clear ht hp HD h1 h0
  generalize t[k] = x at *
  generalize t.length = tl at *
  obtain ⟨xk, xe, xm, xp⟩ := x
  simp only at *
  by_cases h1 : xk = 1
  · subst h1
    go_enter Tryz.func107, Tryz.ntmps107
    go_wp2
    go_ret
    exact ⟨rfl, Below.refl _ _⟩
  by_cases h2 : xk = 2
  · subst h2
    go_enter Tryz.func107, Tryz.ntmps107
    go_wp2
    go_ret
    exact ⟨rfl, Below.refl _ _⟩
  by_cases h3 : xk = 3
  · subst h3
    go_enter Tryz.func107, Tryz.ntmps107
    go_wp2
    go_ret
    exact ⟨rfl, Below.refl _ _⟩
  have e1 : (xk == 1) = false := by simpa using h1
  have e2 : (xk == 2) = false := by simpa using h2
  have e3 : (xk == 3) = false := by simpa using h3
  rw [decide_eq_false (by omega)]
  clear h1 h2 h3
  go_enter Tryz.func107, Tryz.ntmps107
  go_wp2
  go_ret
  exact ⟨rfl, Below.refl _ _⟩

theorem all_bad {p : Int → Bool} {l : List Int} {k : Nat} (hk : k < l.length) (h : p l[k] = false) : l.all p = false := by
  cases hh : l.all p with
  | false => rfl
  | true => rw [List.all_eq_true.1 hh _ (List.getElem_mem hk)] at h; cases h
theorem all_succ {p : Int → Bool} {l : List Int} {k : Nat} (hk : k < l.length) (h : (l.take k).all p = true) (hp : p l[k] = true) : (l.take (k + 1)).all p = true := by
  rw [List.take_succ_eq_append_getElem hk, List.all_append, h]
  simp [hp]

set_option maxHeartbeats 400000 in
theorem lower_calls (m : Int) (v : Value) (l : List Int) (w : World) (hl : IntsAt w v l) :
    Calls Tryz.prog 96 #[v, .int .i64 m] w (BoolR (lowB m l) w) := by
  have HL := hid hl
  obtain ⟨ao, cap, rfl, hlen⟩ := ints_slice hl
  clear hl
  have HBAD := hid (fun k (hk : k < l.length) => all_bad (p := fun n => decide (0 ≤ n ∧ n < m)) hk)
  have HSUC := hid (fun k (hk : k < l.length) => all_succ (p := fun n => decide (0 ≤ n ∧ n < m)) hk)
  have HD : Hid (lowB m l = l.all fun n => decide (0 ≤ n ∧ n < m)) := rfl
  go_enter Tryz.func96, Tryz.ntmps96
  go_wp2
  go_loop [5] (fun i => ∃ k : Nat, k ≤ l.length ∧ i = .int .i64 k ∧ ((l.take k).all fun n => decide (0 ≤ n ∧ n < m)) = true) (fun i => l.length - (intOf i).toNat)
  case atStart => exact ⟨0, by omega, rfl, rfl⟩
  case round =>
    obtain ⟨k, hk, rfl, hall⟩ := hrel
    have HA := hid hall
    clear hall
    by_cases hlt : k < l.length
    · obtain ⟨b, off, rfl, hbs, hc⟩ := ints_at HL.out k hlt
      have H1 := hid (HBAD.out k hlt)
      have H2 := hid (HSUC.out k hlt HA.out)
      generalize l[k] = n at *
      by_cases h0 : n < 0
      · have HE := hid (H1.out (decide_eq_false (by omega)))
        go_wp2
        go_ret
        exact ⟨by rw [HD.out, HE.out]; rfl, Below.refl _ _⟩
      by_cases h1 : m ≤ n
      · have HE := hid (H1.out (decide_eq_false (by omega)))
        go_wp2
        go_ret
        exact ⟨by rw [HD.out, HE.out]; rfl, Below.refl _ _⟩
      have HE := hid (H2.out (decide_eq_true (by omega)))
      go_wp2
      go_round
      case rel => exact ⟨k + 1, by omega, by go_num, HE.out⟩
      case measure => simp [intOf]; omega
    · obtain rfl : k = l.length := by omega
      go_wp2
      go_ret
      exact ⟨by rw [HD.out]; have := HA.out; rw [List.take_length] at this; rw [this]; rfl, Below.refl _ _⟩

set_option maxHeartbeats 1000000 in
theorem mayFn_calls (t : List Ty) (v : Value) (x : Ty) (pv : Value) (w : World) (ht : TysAt w v t) (hp : IntsAt w pv x.parts) :
    Calls Tryz.prog 95 #[v, tyV x pv] w (BoolR (decide (x.parts.length ≤ 4) && (plainB t x.elem && (plainsB t x.parts && decide (x.many = 0)))) w) := by
  have HT := hid ht
  have HP := hid hp
  obtain ⟨ao, cap, rfl⟩ := ht.slice
  obtain ⟨pa, pc, rfl, hlen⟩ := ints_slice hp
  clear ht hp
  have HPL := hid (fun n wx (hb : Below w.heap.size w wx) => plain_calls t _ n wx (HT.out.below hb))
  have HBAD := hid (fun k (hk : k < x.parts.length) => all_bad (p := plainB t) hk)
  have HSUC := hid (fun k (hk : k < x.parts.length) => all_succ (p := plainB t) hk)
  have HD : Hid (plainsB t x.parts = x.parts.all (plainB t)) := rfl
  have hb0 : Below w.heap.size w (w.alloc (.cells #[.int .u8 x.kind, .int .i64 x.elem, .int .i64 x.many, .slice pa x.parts.length pc] 61)) := (Below.refl _ _).alloc (Nat.le_refl _) _
  have HK := hid (alloc_new w (.cells #[.int .u8 x.kind, .int .i64 x.elem, .int .i64 x.many, .slice pa x.parts.length pc] 61))
  generalize t.length = tl at *
  go_enter Tryz.func95, Tryz.ntmps95
  go_wp2
  go_loopg [5] x.parts.length (fun gk i wr => ∃ k : Nat, k + gk = x.parts.length ∧ i = .int .i64 k ∧ (x.parts.take k).all (plainB t) = true ∧ Below w.heap.size w wr ∧ wr.heap[w.heap.size]? = some (.cells #[.int .u8 x.kind, .int .i64 x.elem, .int .i64 x.many, .slice pa x.parts.length pc] 61 (0, 0)))
  case atStart => exact ⟨0, by omega, rfl, rfl, hb0, HK.out⟩
  case round =>
    obtain ⟨k, hk, rfl, hall, hbe, hkk⟩ := hrel
    have HKK := hid hkk
    have HK2 := hid hk
    have HA := hid hall
    obtain ⟨cf, _, _, _⟩ := copy_facts hkk (Below.refl _ _)
    have d1 := cf 1 (by simp)
    have d2 := cf 2 (by simp)
    have d3 := cf 3 (by simp)
    simp only [List.getElem_toArray, List.getElem_cons_succ, List.getElem_cons_zero] at d1 d2 d3
    clear hall hkk cf
    by_cases hlt : k < x.parts.length
    · obtain ⟨b, off, rfl, hbs, hc⟩ := ints_at (HP.out.below hbe) k hlt
      have H1 := hid (HBAD.out k hlt)
      have H2 := hid (HSUC.out k hlt HA.out)
      clear hk
      generalize x.parts[k] = n at *
      have HC := hid (HPL.out n wr hbe)
      cases hpn : plainB t n with
      | false =>
        rw [hpn] at HC
        have HE := hid (H1.out hpn)
        clear hpn H1 H2
        go_wp2_with fail
        refine HC.out.mono ?_
        rintro e w1 ⟨rfl, hb1⟩
        have hbe1 := hbe.trans (hb1.mono hbe.size)
        clear hb1
        go_wp2
        go_ret
        refine ⟨ret_bool ?_, hbe1⟩
        rw [HD.out, HE.out]
        simp
      | true =>
        rw [hpn] at HC
        have HE := hid (H2.out hpn)
        clear hpn H1 H2
        go_wp2_with fail
        refine HC.out.mono ?_
        rintro e w1 ⟨rfl, hb1⟩
        have hbe1 := hbe.trans (hb1.mono hbe.size)
        have HKN := hid ((hb1.block _ (Array.getElem?_eq_some_iff.1 HKK.out).1).trans HKK.out)
        clear hb1
        go_wp2
        go_roundg (gk - 1)
        case measure => have := HK2.out; omega
        case rel => exact ⟨k + 1, by have := HK2.out; omega, by go_num, HE.out, hbe1, HKN.out⟩
    · obtain rfl : k = x.parts.length := by omega
      have HE : Hid (plainsB t x.parts = true) := by show _ = _; rw [HD.out]; have := HA.out; rwa [List.take_length] at this
      have HC := hid (HPL.out x.elem wr hbe)
      clear hk HD HBAD HSUC HA
      rw [HE.out]
      generalize plainB t x.elem = pb at *
      obtain ⟨xk, xe, xm, xp⟩ := x
      simp only at *
      generalize xp.length = pn at *
      cases pb <;>
      · go_wp2_with fail
        refine HC.out.mono ?_
        rintro e w1 ⟨rfl, hb1⟩
        have hbe1 := hbe.trans (hb1.mono hbe.size)
        obtain ⟨cf, _, _, _⟩ := copy_facts HKK.out hb1
        have d1 := cf 1 (by simp)
        have d2 := cf 2 (by simp)
        have d3 := cf 3 (by simp)
        simp only [List.getElem_toArray, List.getElem_cons_succ, List.getElem_cons_zero] at d1 d2 d3
        clear hb1 cf
        go_wp2
        all_goals
          go_ret
          refine ⟨ret_bool ?_, hbe1⟩
          first | rfl | (rw [HE.out, Bool.eq_iff_iff]; simp; omega) | (rw [HE.out]; simp [*]; done) | (rw [Bool.eq_iff_iff]; simp; omega) | (simp [*]; done)

set_option maxHeartbeats 1000000 in
theorem mayR_int (t : List Ty) (v : Value) (k : Nat) (x : Ty) (w : World) (ht : TysAt w v t) (hx : t[k]? = some x) (hkd : x.kind = 1) :
    Calls Tryz.prog 81 #[v, .int .i64 k] w (BoolR (mayX t k x) w) := by
  obtain ⟨hk, rfl⟩ := List.getElem?_eq_some_iff.1 hx
  obtain ⟨ao, cap, rfl⟩ := ht.slice
  have HT := hid ht
  obtain ⟨tb, off, rfl, hlt, pv, c0, c1, c2, c3, hp⟩ := ht.at k hk
  rw [hkd] at c0
  have HM : Hid (mayX t k t[k] = (decide (t[k].elem = 0) && (decide (t[k].many = 0) && decide (t[k].parts.length = 0)))) := by
    show _ = _
    unfold mayX; rw [if_pos hkd]
  rw [HM.out]
  clear HM
  have HP := hid hp
  obtain ⟨pa, pc, rfl, hpl⟩ := ints_slice hp
  clear ht hp hx hkd HT HP
  generalize t[k] = y at *
  obtain ⟨yk, ye, ym, yp⟩ := y
  simp only at *
  generalize t.length = n at *
  generalize yp.length = pn at *
  have hb0 : Below w.heap.size w (w.alloc (.cells #[.int .u8 1, .int .i64 ye, .int .i64 ym, .slice pa pn pc] 61)) := (Below.refl _ _).alloc (Nat.le_refl _) _
  go_enter Tryz.func81, Tryz.ntmps81
  go_wp2
  all_goals
    go_ret
    refine ⟨ret_bool ?_, ?_⟩
    · first | rfl | (rw [Bool.eq_iff_iff]; simp; omega) | (simp [*]; done)
    · first | assumption | exact (Below.refl _ _).alloc (Nat.le_refl _) _

set_option maxHeartbeats 1000000 in
theorem mayR_ptr (t : List Ty) (v : Value) (k : Nat) (x : Ty) (w : World) (ht : TysAt w v t) (hx : t[k]? = some x) (hkd : x.kind = 2) :
    Calls Tryz.prog 81 #[v, .int .i64 k] w (BoolR (mayX t k x) w) := by
  obtain ⟨hk, rfl⟩ := List.getElem?_eq_some_iff.1 hx
  obtain ⟨ao, cap, rfl⟩ := ht.slice
  have HT := hid ht
  obtain ⟨tb, off, rfl, hlt, pv, c0, c1, c2, c3, hp⟩ := ht.at k hk
  rw [hkd] at c0
  have HM : Hid (mayX t k t[k] = (lowB t.length [t[k].elem] && (decide (t[k].many = 0) && decide (t[k].parts.length = 0)))) := by
    show _ = _
    unfold mayX; rw [if_neg (by omega), if_pos hkd]
  rw [HM.out]
  clear HM
  have HP := hid hp
  obtain ⟨pa, pc, rfl, hpl⟩ := ints_slice hp
  rw [low_one]
  clear ht hp hx hkd HT HP
  generalize t[k] = y at *
  obtain ⟨yk, ye, ym, yp⟩ := y
  simp only at *
  generalize t.length = n at *
  generalize yp.length = pn at *
  have hb0 : Below w.heap.size w (w.alloc (.cells #[.int .u8 2, .int .i64 ye, .int .i64 ym, .slice pa pn pc] 61)) := (Below.refl _ _).alloc (Nat.le_refl _) _
  go_enter Tryz.func81, Tryz.ntmps81
  go_wp2
  all_goals
    go_ret
    refine ⟨ret_bool ?_, ?_⟩
    · first | rfl | (rw [Bool.eq_iff_iff]; simp; omega) | (simp [*]; done)
    · first | assumption | exact (Below.refl _ _).alloc (Nat.le_refl _) _

set_option maxHeartbeats 1000000 in
theorem mayR_array (t : List Ty) (v : Value) (k : Nat) (x : Ty) (w : World) (ht : TysAt w v t) (hx : t[k]? = some x) (hkd : x.kind = 5) :
    Calls Tryz.prog 81 #[v, .int .i64 k] w (BoolR (mayX t k x) w) := by
  obtain ⟨hk, rfl⟩ := List.getElem?_eq_some_iff.1 hx
  obtain ⟨ao, cap, rfl⟩ := ht.slice
  have HT := hid ht
  obtain ⟨tb, off, rfl, hlt, pv, c0, c1, c2, c3, hp⟩ := ht.at k hk
  rw [hkd] at c0
  have HM : Hid (mayX t k t[k] = (decide (1 ≤ t[k].many) && (decide (t[k].many ≤ 16) && (lowB k [t[k].elem] && decide (t[k].parts.length = 0))))) := by
    show _ = _
    unfold mayX; rw [if_neg (by omega), if_neg (by omega), if_neg (by omega), if_neg (by omega), if_pos hkd]
  rw [HM.out]
  clear HM
  have HP := hid hp
  obtain ⟨pa, pc, rfl, hpl⟩ := ints_slice hp
  rw [low_one]
  clear ht hp hx hkd HT HP
  generalize t[k] = y at *
  obtain ⟨yk, ye, ym, yp⟩ := y
  simp only at *
  generalize t.length = n at *
  generalize yp.length = pn at *
  have hb0 : Below w.heap.size w (w.alloc (.cells #[.int .u8 5, .int .i64 ye, .int .i64 ym, .slice pa pn pc] 61)) := (Below.refl _ _).alloc (Nat.le_refl _) _
  go_enter Tryz.func81, Tryz.ntmps81
  go_wp2
  all_goals
    go_ret
    refine ⟨ret_bool ?_, ?_⟩
    · first | rfl | (rw [Bool.eq_iff_iff]; simp; omega) | (simp [*]; done)
    · first | assumption | exact (Below.refl _ _).alloc (Nat.le_refl _) _

set_option maxHeartbeats 1000000 in
theorem mayR_struct (t : List Ty) (v : Value) (k : Nat) (x : Ty) (w : World) (ht : TysAt w v t) (hx : t[k]? = some x) (hkd : x.kind = 4) :
    Calls Tryz.prog 81 #[v, .int .i64 k] w (BoolR (mayX t k x) w) := by
  obtain ⟨hk, rfl⟩ := List.getElem?_eq_some_iff.1 hx
  obtain ⟨ao, cap, rfl⟩ := ht.slice
  have HT := hid ht
  obtain ⟨tb, off, rfl, hlt, pv, c0, c1, c2, c3, hp⟩ := ht.at k hk
  rw [hkd] at c0
  have HM : Hid (mayX t k t[k] = (decide (1 ≤ t[k].parts.length) && (decide (t[k].parts.length ≤ 8) && (lowB k t[k].parts && (decide (t[k].elem = 0) && decide (t[k].many = 0)))))) := by
    show _ = _
    unfold mayX; rw [if_neg (by omega), if_neg (by omega), if_neg (by omega), if_pos hkd]
  rw [HM.out]
  clear HM
  have HP := hid hp
  obtain ⟨pa, pc, rfl, hpl⟩ := ints_slice hp
  have HB := hid (fun wx (hw : Below w.heap.size w wx) => lower_calls k _ t[k].parts wx (HP.out.below hw))
  generalize lowB k t[k].parts = lb at *
  clear ht hp hx hkd HT HP
  generalize t[k] = y at *
  obtain ⟨yk, ye, ym, yp⟩ := y
  simp only at *
  generalize t.length = n at *
  generalize yp.length = pn at *
  by_cases he : ye = 0
  rotate_left
  · clear HB
    have hd : (ye == 0) = false := by simpa using he
    go_enter Tryz.func81, Tryz.ntmps81
    go_wp2
    all_goals
      go_ret
      refine ⟨ret_bool ?_, ?_⟩
      · first | rfl | (rw [Bool.eq_iff_iff]; simp; omega) | (simp [*]; done)
      · first | assumption | exact (Below.refl _ _).alloc (Nat.le_refl _) _
  by_cases hm : ym = 0
  rotate_left
  · clear HB
    have hd : (ym == 0) = false := by simpa using hm
    subst he
    go_enter Tryz.func81, Tryz.ntmps81
    go_wp2
    all_goals
      go_ret
      refine ⟨ret_bool ?_, ?_⟩
      · first | rfl | (rw [Bool.eq_iff_iff]; simp; omega) | (simp [*]; done)
      · first | assumption | exact (Below.refl _ _).alloc (Nat.le_refl _) _
  subst he
  subst hm
  have hb0 : Below w.heap.size w (w.alloc (.cells #[.int .u8 4, .int .i64 0, .int .i64 0, .slice pa pn pc] 61)) := (Below.refl _ _).alloc (Nat.le_refl _) _
  have HC := hid (HB.out (w.alloc (.cells #[.int .u8 4, .int .i64 0, .int .i64 0, .slice pa pn pc] 61)) hb0)
  clear HB
  cases lb <;>
  · go_enter Tryz.func81, Tryz.ntmps81
    go_wp2_with (go_at_call 96; refine HC.out.mono ?_; rintro e w1 ⟨rfl, hb1⟩; have hbe := hb0.trans (hb1.mono hb0.size); clear hb1)
    all_goals
      go_ret
      refine ⟨ret_bool ?_, ?_⟩
      · first | rfl | (rw [Bool.eq_iff_iff]; simp; omega) | (simp [*]; done)
      · first | assumption | exact (Below.refl _ _).alloc (Nat.le_refl _) _

set_option maxHeartbeats 1000000 in
theorem mayR_fn (t : List Ty) (v : Value) (k : Nat) (x : Ty) (w : World) (ht : TysAt w v t) (hx : t[k]? = some x) (hkd : x.kind = 3) :
    Calls Tryz.prog 81 #[v, .int .i64 k] w (BoolR (mayX t k x) w) := by
  obtain ⟨hk, rfl⟩ := List.getElem?_eq_some_iff.1 hx
  obtain ⟨ao, cap, rfl⟩ := ht.slice
  have HT := hid ht
  obtain ⟨tb, off, rfl, hlt, pv, c0, c1, c2, c3, hp⟩ := ht.at k hk
  rw [hkd] at c0
  have HM : Hid (mayX t k t[k] = (decide (t[k].parts.length ≤ 4) && (plainB t t[k].elem && (plainsB t t[k].parts && decide (t[k].many = 0))))) := by
    show _ = _
    unfold mayX; rw [if_neg (by omega), if_neg (by omega), if_pos hkd]
  rw [HM.out]
  clear HM
  have HP := hid hp
  obtain ⟨pa, pc, rfl, hpl⟩ := ints_slice hp
  have HA := hid (fun wx (hw : Below w.heap.size w wx) => mayFn_calls t _ t[k] _ wx (HT.out.below hw) (HP.out.below hw))
  generalize (decide (t[k].parts.length ≤ 4) && (plainB t t[k].elem && (plainsB t t[k].parts && decide (t[k].many = 0)))) = fb at *
  unfold tyV at HA
  rw [hkd] at HA
  clear ht hp hx hkd HT HP
  generalize t[k] = y at *
  obtain ⟨yk, ye, ym, yp⟩ := y
  simp only at *
  generalize t.length = n at *
  generalize yp.length = pn at *
  have hb0 : Below w.heap.size w (w.alloc (.cells #[.int .u8 3, .int .i64 ye, .int .i64 ym, .slice pa pn pc] 61)) := (Below.refl _ _).alloc (Nat.le_refl _) _
  have HC := hid (HA.out (w.alloc (.cells #[.int .u8 3, .int .i64 ye, .int .i64 ym, .slice pa pn pc] 61)) hb0)
  clear HA
  go_enter Tryz.func81, Tryz.ntmps81
  go_wp2_with (go_at_call 95; refine HC.out.mono ?_; rintro e w1 ⟨rfl, hb1⟩; have hbe := hb0.trans (hb1.mono hb0.size); clear hb1)
  all_goals
    go_ret
    refine ⟨ret_bool ?_, ?_⟩
    · first | rfl | (rw [Bool.eq_iff_iff]; simp; omega) | (simp [*]; done)
    · first | assumption | exact (Below.refl _ _).alloc (Nat.le_refl _) _

set_option maxHeartbeats 1000000 in
theorem mayR_none (t : List Ty) (v : Value) (k : Nat) (x : Ty) (w : World) (ht : TysAt w v t) (hx : t[k]? = some x) (n1 : x.kind ≠ 1) (n2 : x.kind ≠ 2) (n3 : x.kind ≠ 3) (n4 : x.kind ≠ 4) (n5 : x.kind ≠ 5) :
    Calls Tryz.prog 81 #[v, .int .i64 k] w (BoolR (mayX t k x) w) := by
  obtain ⟨hk, rfl⟩ := List.getElem?_eq_some_iff.1 hx
  obtain ⟨ao, cap, rfl⟩ := ht.slice
  obtain ⟨tb, off, rfl, hlt, pv, c0, c1, c2, c3, hp⟩ := ht.at k hk
  obtain ⟨pa, pc, rfl, hpl⟩ := ints_slice hp
  rw [show mayX t k t[k] = false by unfold mayX; rw [if_neg n1, if_neg n2, if_neg n3, if_neg n4, if_neg n5]]
  clear ht hp hx
  generalize t[k] = y at *
  obtain ⟨yk, ye, ym, yp⟩ := y
  simp only at *
  generalize t.length = n at *
  have e1 : (yk == 1) = false := by simpa using n1
  have e2 : (yk == 2) = false := by simpa using n2
  have e3 : (yk == 3) = false := by simpa using n3
  have e4 : (yk == 4) = false := by simpa using n4
  have e5 : (yk == 5) = false := by simpa using n5
  clear n1 n2 n3 n4 n5
  go_enter Tryz.func81, Tryz.ntmps81
  go_wp2
  all_goals
    go_ret
    refine ⟨ret_bool ?_, ?_⟩
    · first | rfl | (rw [Bool.eq_iff_iff]; simp; omega) | (simp [*]; done)
    · first | assumption | exact (Below.refl _ _).alloc (Nat.le_refl _) _

theorem mayType_calls (t : List Ty) (v : Value) (k : Nat) (x : Ty) (w : World) (ht : TysAt w v t) (hx : t[k]? = some x) :
    Calls Tryz.prog 81 #[v, .int .i64 k] w (BoolR (mayX t k x) w) := by
  by_cases h1 : x.kind = 1
  · exact mayR_int t v k x w ht hx h1
  by_cases h2 : x.kind = 2
  · exact mayR_ptr t v k x w ht hx h2
  by_cases h3 : x.kind = 3
  · exact mayR_fn t v k x w ht hx h3
  by_cases h4 : x.kind = 4
  · exact mayR_struct t v k x w ht hx h4
  by_cases h5 : x.kind = 5
  · exact mayR_array t v k x w ht hx h5
  exact mayR_none t v k x w ht hx h1 h2 h3 h4 h5
end Go.Proofs.YtimnjkdhcnhkoaaGreatDoor.TyRA
