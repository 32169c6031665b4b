/- Walk over fescuelaw09.FlowOrder: the order. -/
import Derived.Test.YtimnjkdhcnhkoaaDoorZFvPToFkW
import Derived.Test.YtimnjkdhcnhkoaaDoorZLwTToFyB
import Derived.Deep.QuietTactic
import Derived.BigQuiet
import Derived.IntWalk
namespace Go.Proofs.YtimnjkdhcnhkoaaDoor.FyQ
open Go.RowKit Go.Lib RwO SetP IntO TyM TyP TyB TyC TyRE ShM ShP ShA ShB ShC ShE ShI ShJ ShR ShOpen ShRS ShRJ ShTB ShTP Aft Fresh LwT PgB FwM FwC FwP FwQ FwR FwB FwK FwO FvA FyP FyA FyC

theorem ints_dec (l : List Nat) (n : Nat) : decide ((n : Int) ∈ ints l) = decide (n ∈ l) := decide_eq_decide.2 ints_mem
theorem up_at {l : List Nat} (h : l.Pairwise (· < ·)) {m : Nat} (hm : m + 1 < l.length) : l[m]'(by omega) < l[m + 1] := List.pairwise_iff_getElem.1 h m (m + 1) (by omega) hm (by omega)
theorem ord_len {l : List Bx} (h : Low l) (h0 : 0 < l.length) : (orderedL l).length ≤ l.length := by
  rw [order_len h h0]
  have := List.length_filter_le (fun i => has (comeO (succ l) (-1) l.length [0]) i) (List.range l.length)
  rw [List.length_range] at this
  exact this

set_option maxRecDepth 100000 in
set_option maxHeartbeats 16000000 in
theorem walk_of (CN : NextC) (CP : PredsC) (CO : OrderC) (CR : RoundC) (CE : ReachC) (W : World) (v : Value) (p : Px) (S : PrAt W v p) (_ : ∀ y ∈ p.types, TyOk y) (z : ∀ y ∈ p.funcs, FxOk y) (ln : Lens p) (f : Int) (fw : (Lit.int .i64 f).wf = true) (i : Int) (iw : (Lit.int .i64 i).wf = true) (k : Int) (kw : (Lit.int .i64 k).wf = true) (ht : Tab W) :
    Calls Tryd.prog 6 #[v, .int .i64 f, .int .i64 i, .int .i64 k] W fun e W' => e = .returned (.bool true) ∧ Below W.heap.size W W' := by
  have v64f : I64 f := i64_wf fw
  have v64i : I64 i := i64_wf iw
  have v64k : I64 k := i64_wf kw
  have hok : POk p := fun f hf b hb => ⟨(z f hf b hb).1, fun y hy => ((z f hf b hb).2 y hy).1⟩
  have HOK := hid hok
  have hp0 := S
  obtain ⟨vt, vf, rfl, hvt, hvf⟩ := S
  obtain ⟨W0, hW0⟩ : ∃ W0, W0 = W.alloc (.cells #[vt, vf] 25) := ⟨_, rfl⟩
  have hbW : Below W.heap.size W W0 := by rw [hW0]; exact alloc_below _ _
  have k1 : W0.heap[W.heap.size]? = some (.cells #[vt, vf] 25 (0, 0)) := by rw [hW0]; exact alloc_new _ _
  have HP := hid (hp0.below hbW)
  have HT := hid (ht.on hbW)
  have HAL := hid (alive_of CN CP CO CR W0 HT.out)
  have HG := hid (fun wx (h : Aft W0 wx) => ShR.great_calls p _ 300 wx (HP.out.below h.below) ln (by decide) (by decide))
  obtain ⟨ta, tc, rfl⟩ := hvt.slice
  obtain ⟨fa, fc, rfl, _⟩ := hvf.slice
  have l0 : ∀ w', Aft W0 w' → w'.cell? ⟨W.heap.size, 0, none⟩ = some (.slice ta p.types.length tc) := later_cells k1 0 _ rfl
  have l1 : ∀ w', Aft W0 w' → w'.cell? ⟨W.heap.size, 1, none⟩ = some (.slice fa p.funcs.length fc) := later_cells k1 1 _ rfl
  have HBW := hid hbW
  have HW := hid hW0
  have h0 := Aft.refl W0
  have HIf := hid v64f
  have HIi := hid v64i
  have HIk := hid v64k
  clear hvt hvf hp0 hbW hW0 k1 z ln ht hok v64f fw v64i iw v64k kw
  generalize p.types.length = n1 at *
  generalize p.funcs.length = n2 at *
  go_enter Tryd.func6, Tryd.ntmps6
  go_wp2_with fail
  rw [← HW.out]
  refine HAL.out.mono ?_
  rintro e w1 ⟨rfl, hb1⟩
  have h1 := h0.go hb1
  have HG1 := hid (HG.out w1 h1)
  clear HAL hb1 HG
  go_wp2_with fail
  refine HG1.out.mono ?_
  rintro e w2 ⟨gb, rfl, hsmall, hb2⟩
  have h2 := h1.go hb2
  clear HG1 hb2
  cases gb with
  | true =>
    clear hsmall
    go_wp2
    go_ret
    exact ⟨rfl, h2.out HBW.out⟩
  | false =>
  have HS := hid (hsmall rfl)
  clear hsmall h1 h0
  have HC1 := hid (OrderC.e CO p f _ w2 (HP.out.below h2.below) (HT.out.on h2.below) HS.out HOK.out HIf.out)
  go_wp2_with fail
  refine HC1.out.mono ?_
  rintro e w3 ⟨u1, rfl, hu1, hb3⟩
  have h3 := h2.go hb3
  have HC2 := hid (ReachC.e CE p f _ w3 (HP.out.below h3.below) (HT.out.on h3.below) HS.out HOK.out HIf.out)
  clear HC1 h2 hb3
  go_wp2_with fail
  refine HC2.out.mono ?_
  rintro e w4 ⟨u2, rfl, hu2, hb4⟩
  have h4 := h3.go hb4
  have hu1 := hu1.below hb4
  clear HC2 h3 hb4
  obtain ⟨q1, c1, rfl, _⟩ := ints_slice hu1
  obtain ⟨q2, c2, rfl, _⟩ := ints_slice hu2
  by_cases hz : findP p f = 0
  rotate_left
  · have HA1 : orderA p f = [] := by unfold orderA; rw [if_neg hz]
    have e0 : (findP p f != 0) = true := by simpa using hz
    have e1 : (findP p f == findP p f) = true := by simp
    have HE := hid (h4.out HBW.out)
    rw [HA1]
    clear hu1 hu2 hz HS HOK HP HT HIf HIi HIk HA1
    generalize (reachA p f).length = m2 at *
    generalize findP p f = er at *
    go_wp2
    go_ret
    exact ⟨rfl, HE.out⟩
  obtain ⟨hlow, hn0, hn16⟩ := low_fn HOK.out hz
  have HA1 : orderA p f = ints (orderedL (blsP p f)) := by unfold orderA; rw [if_pos hz]
  have HA2 : reachA p f = ints (reachedL (blsP p f)) := by unfold reachA; rw [if_pos hz]
  rw [HA1] at hu1 ⊢
  rw [HA2] at hu2 ⊢
  rw [hz]
  have HLEN := order_len hlow hn0
  have HO16 := hid (Nat.le_trans (ord_len hlow hn0) hn16)
  obtain ⟨r0, hr0⟩ := order_head (t := succ (blsP p f)) (n := (blsP p f).length)
  have HO0 : Hid ((orderedL (blsP p f))[0]? = some 0) := by show _ = _; show (order _ _)[0]? = _; rw [hr0]; rfl
  have HPOS : Hid (0 < (orderedL (blsP p f)).length) := by show 0 < (order _ _).length; rw [hr0]; simp
  have HMEM : Hid (∀ x ∈ reachedL (blsP p f), x ∈ orderedL (blsP p f)) := fun x hx => (order_mem hn0 (succ_lt hlow) x).2 ((reached_mem hlow hn0 x).1 hx)
  have HUP := hid (reached_up (blsP p f))
  have HBL : Hid (∀ x ∈ orderedL (blsP p f), x < (blsP p f).length) := fun x hx => ((order_mem hn0 (succ_lt hlow) x).1 hx).lt (succ_lt hlow) hn0
  have HAH : Hid (∀ a c u v, (orderedL (blsP p f))[a]? = some u → (orderedL (blsP p f))[c]? = some v → v ∈ succ (blsP p f) u → comeB (blsP p f) v u = false → a < c) := fun a c u v h1 h2 h3 h4 => order_ahead hn0 (succ_lt hlow) h1 h2 h3 (fun hc => by
    have hv : v < (blsP p f).length := ((order_mem hn0 (succ_lt hlow) v).1 (List.mem_of_getElem? h2)).lt (succ_lt hlow) hn0
    rw [(comeB_iff hlow hv).2 hc] at h4
    cases h4)
  have HNX := hid (fun (u : Nat) (hu : u < (blsP p f).length) => next_succ (b := u) HOK.out (ask_yes hz (by omega) (by omega)))
  have HAS := hid (fun (u : Nat) (hu : u < (blsP p f).length) => ask_yes (b := (u : Int)) hz (by omega) (by omega))
  have HN := hid (fun (u : Nat) (hu : u < (blsP p f).length) wx (h : Aft W0 wx) => NextC.e CN p f u _ wx (HP.out.below h.below) (HT.out.on h.below) HS.out HOK.out HIf.out ⟨by omega, by omega⟩)
  have HCM := hid (fun (a c : Nat) (ha : a < (blsP p f).length) (wx : World) (h : Aft W0 wx) => comes_of CN p f a c _ wx (HP.out.below h.below) (HT.out.on h.below) HS.out HOK.out HIf.out hz ha)
  have HIi2 := HIi.out
  have HIk2 := HIk.out
  clear HA1 HA2 hr0 hlow hn0 hn16 hz HS HOK HP HT HIf HIi HIk
  have HU1 := hid hu1
  have HU2 := hid hu2
  rw [ints_length] at HU1 HU2
  rw [ints_length, ints_length]
  clear hu1 hu2
  generalize orderedL (blsP p f) = O at *
  generalize reachedL (blsP p f) = R at *
  have HLE := hid HLEN
  rw [← HLEN] at HU2
  rw [← HLEN]
  clear HLEN
  obtain ⟨b1, o1, rfl, _, cc0⟩ := TyP.ints_at HU1.out 0 (by rw [ints_length]; exact HPOS.out)
  rw [nums_at HPOS.out] at cc0
  have ho0 : O[0]'HPOS.out = 0 := by have := HO0.out; rw [List.getElem?_eq_getElem HPOS.out] at this; exact Option.some.inj this
  rw [ho0, Nat.add_zero] at cc0
  have f0 : ((O.length : Int) == 0) = false := beq_false_of_ne (by have := HPOS.out; omega)
  have f1 : ((O.length : Int) != (O.length : Int)) = false := by simp
  have f2 : (0 : Int) < (O.length : Int) := by have := HPOS.out; omega
  have f3 : 0 < O.length := HPOS.out
  have g4 := Aft.refl w4
  have HI64i := hid HIi2
  have HI64k := hid HIk2
  clear ho0 HIi2 HIk2
  go_wp2_with fail
  go_loopg [14] O.length (fun gk nv wr => ∃ m : Nat, m + gk = O.length ∧ nv = .int .i64 m ∧ Aft w4 wr)
  case atStart => exact ⟨0, by omega, rfl, g4⟩
  case round =>
    obtain ⟨m, hm, rfl, hbe⟩ := hrel
    have HM := hid hm
    have HBE := hid hbe
    by_cases hlt : m < O.length
    · have HLT := hid hlt
      have hltR : m < R.length := by rw [← HLE.out]; exact hlt
      obtain ⟨b2, o2, rfl, _, cc⟩ := TyP.ints_at (HU2.out.below hbe.below) m (by rw [ints_length]; exact hltR)
      rw [nums_at hltR] at cc
      have hin : R[m] ∈ O := HMEM.out _ (List.getElem_mem hltR)
      have HAM := hid (fun (n : Nat) => ints_dec O R[m] ▸ among_same _ (ints O) R[m] (wr.drewN n) ((HU1.out.below hbe.below).below (below_drewN (Below.refl _ _) n)))
      rw [decide_eq_true hin] at HAM
      have hkl : (m : Int) < (O.length : Int) := by omega
      have hkb : m ≤ 9223372036854775806 := by have := HO16.out; omega
      cases m with
      | zero =>
        clear hm hin hkl
        generalize R[0] = c at *
        rw [Nat.add_zero] at cc
        have f4 : (0 : Int) < (O.length : Int) := f2
        rw [show ((0 : Nat) : Int) = 0 from rfl]
        go_wp2_with fail
        go_quiet ((go_at_call 22; exact quiet_eq (HAM.out _)))
        obtain ⟨wd, hwd⟩ : ∃ wd : World, wd = wr.drewN nq := ⟨_, rfl⟩
        have HBD : Hid (Aft w4 wd) := by show Below _ _ _; rw [hwd]; exact below_drewN HBE.out nq
        rw [← hwd]
        clear hwd
        go_wp2
        go_roundg (gk - 1)
        case measure => have := HM.out; have := HLT.out; omega
        case rel => exact ⟨1, by have := HM.out; have := HLT.out; omega, by go_num, HBD.out⟩
      | succ m =>
        obtain ⟨_, _, he, _, cp⟩ := TyP.ints_at (HU2.out.below hbe.below) m (by rw [ints_length]; omega)
        cases he
        rw [nums_at (show m < R.length by omega)] at cp
        have hup := up_at HUP.out hltR
        have hs1 : IntKind.i64.wrap (((m + 1 : Nat) : Int) - 1) = (m : Int) := by
          have : (((m + 1 : Nat) : Int) - 1) = (m : Int) := by omega
          rw [this]
          exact IntWalk.i64_in _ (by omega)
        have hm1 : (m : Int) < (O.length : Int) := by omega
        have hm2 : m < O.length := by omega
        have hpos : (0 : Int) < ((m + 1 : Nat) : Int) := by omega
        have hge : decide (((R[m] : Nat) : Int) ≥ ((R[m + 1] : Nat) : Int)) = false := decide_eq_false (by omega)
        have hge2 : ¬ (((R[m + 1] : Nat) : Int) ≤ ((R[m] : Nat) : Int)) := by omega
        clear hm hin hup
        generalize R[m + 1] = c at *
        generalize R[m]'(by omega) = d at *
        go_wp2_with fail
        go_quiet ((go_at_call 22; exact quiet_eq (HAM.out _)))
        obtain ⟨wd, hwd⟩ : ∃ wd : World, wd = wr.drewN nq := ⟨_, rfl⟩
        have HBD : Hid (Aft w4 wd) := by show Below _ _ _; rw [hwd]; exact below_drewN HBE.out nq
        rw [← hwd]
        clear hwd hs1
        go_wp2
        go_roundg (gk - 1)
        case measure => have := HM.out; have := HLT.out; omega
        case rel => exact ⟨m + 1 + 1, by have := HM.out; have := HLT.out; omega, by go_num, HBD.out⟩
    · obtain rfl : m = O.length := by omega
      have hA : Aft W0 wr := h4.go hbe
      have HE := hid (hA.out HBW.out)
      clear hm cc0 f0 f1 f2 f3 g4
      have hi64 := HI64i.out
      have hk64 := HI64k.out
      by_cases i0 : i < 0
      · go_wp2 <;> first | (exfalso; omega) | (go_ret; exact ⟨rfl, HE.out⟩)
      by_cases k0 : k < 0
      · go_wp2 <;> first | (exfalso; omega) | (go_ret; exact ⟨rfl, HE.out⟩)
      by_cases i1 : (O.length : Int) ≤ i
      · go_wp2 <;> first | (exfalso; omega) | (go_ret; exact ⟨rfl, HE.out⟩)
      by_cases k1 : (O.length : Int) ≤ k
      · go_wp2 <;> first | (exfalso; omega) | (go_ret; exact ⟨rfl, HE.out⟩)
      obtain ⟨a, ha⟩ : ∃ a : Nat, i = a := ⟨i.toNat, by omega⟩
      obtain ⟨c, hc⟩ : ∃ c : Nat, k = c := ⟨k.toNat, by omega⟩
      subst ha
      subst hc
      have hal : a < O.length := by omega
      have hcl : c < O.length := by omega
      have HAL := hid hal
      have HCL := hid hcl
      obtain ⟨_, _, he, _, qa⟩ := TyP.ints_at (HU1.out.below hbe.below) a (by rw [ints_length]; exact hal)
      cases he
      rw [nums_at hal] at qa
      obtain ⟨_, _, he, _, qc⟩ := TyP.ints_at (HU1.out.below hbe.below) c (by rw [ints_length]; exact hcl)
      cases he
      rw [nums_at hcl] at qc
      have hub := HBL.out _ (List.getElem_mem hal)
      have hvb := HBL.out _ (List.getElem_mem hcl)
      have HGA : Hid (O[a]? = some O[a]) := List.getElem?_eq_getElem hal
      have HGC : Hid (O[c]? = some O[c]) := List.getElem?_eq_getElem hcl
      have HAH2 := hid (HAH.out a c O[a] O[c] HGA.out HGC.out)
      have HNN := hid (HN.out O[a] hub wr.drew hA.drew)
      have hua := HAS.out _ hub
      have hna := HNX.out _ hub
      have HCC := hid (fun wx (h : Aft W0 wx) => HCM.out O[c] O[a] hvb wx h)
      have hD := (Aft.refl wr).drew
      have r0 : ∀ w', Aft wr w' → w'.cell? ⟨W.heap.size, 0, none⟩ = some (.slice ta n1 tc) := fun w' h => l0 w' (hA.trans h)
      have r1 : ∀ w', Aft wr w' → w'.cell? ⟨W.heap.size, 1, none⟩ = some (.slice fa n2 fc) := fun w' h => l1 w' (hA.trans h)
      have ra := later qa
      have rc := later qc
      clear qa qc hub hvb HGA HGC HN HAS HNX HCM HAH hbe HM HBE hi64 hk64
      generalize O[a] = u at *
      generalize O[c] = v at *
      rw [hua, hna] at HNN
      clear hua hna
      have HSU := hid (succ_len (blsP p f) u)
      generalize succ (blsP p f) u = T at *
      generalize comeB (blsP p f) v u = cb at *
      go_wp2_with fail
      go_region_held3 (fun w' => Aft wr w') (first | exact hD.go hb3 | exact hD)
        ((go_at_call 9; refine HNN.out.mono ?_; rintro e w5 ⟨tu, rfl, htu, hb3⟩))
      all_goals
        have h5 := hD.go hb3
        have HTU := hid htu
        obtain ⟨ba, bc, rfl, _⟩ := ints_slice htu
        rw [ints_length] at HTU
        rw [ints_length]
        have hA5 := hA.trans h5
        have s0 : ∀ w', Aft w5 w' → w'.cell? ⟨W.heap.size, 0, none⟩ = some (.slice ta n1 tc) := fun w' h => r0 w' (h5.trans h)
        have s1 : ∀ w', Aft w5 w' → w'.cell? ⟨W.heap.size, 1, none⟩ = some (.slice fa n2 fc) := fun w' h => r1 w' (h5.trans h)
        have sa : ∀ w', Aft w5 w' → _ := fun w' h => ra w' (h5.trans h)
        have sc : ∀ w', Aft w5 w' → _ := fun w' h => rc w' (h5.trans h)
        have hD5 := (Aft.refl w5).drew
        have HE5 := hid (hA5.out HBW.out)
        have HA5 := hid hA5
        clear HNN htu hb3 r0 r1 ra rc hA h5 hD HE hA5
        by_cases hin : v ∈ T
        · have HAM := hid (ints_dec T v ▸ among_calls _ (ints T) v w5.drew (HTU.out.below hD5.below))
          rw [decide_eq_true hin] at HAM
          have HAH3 := hid (HAH2.out hin)
          have HCD := hid (fun wx (h : Aft w5 wx) => HCC.out wx (HA5.out.trans h))
          clear hin HAH2 HCC
          cases cb with
          | true =>
            go_wp2_with fail
            go_region_held3 (fun w' => Aft w5 w') (first | exact (hD5.go hb6).go hb7 | exact hD5.go hb6 | exact hD5)
              (first | (go_at_call 22; refine HAM.out.mono ?_; rintro e w6 ⟨rfl, hb6⟩) | (go_at_call 23; refine (HCD.out w6 (hD5.go hb6)).mono ?_; rintro e w7 ⟨rfl, hb7⟩))
            all_goals
              have HE7 := hid (((HA5.out.trans ((hD5.go hb6).go hb7))).out HBW.out)
              go_wp2
              go_ret
              exact ⟨rfl, HE7.out⟩
          | false =>
            have hac := HAH3.out rfl
            have hac2 : decide ((a : Int) < (c : Int)) = true := decide_eq_true (by omega)
            have hac3 : (a : Int) < (c : Int) := by omega
            go_wp2_with fail
            go_region_held3 (fun w' => Aft w5 w') (first | exact (hD5.go hb6).go hb7 | exact hD5.go hb6 | exact hD5)
              (first | (go_at_call 22; refine HAM.out.mono ?_; rintro e w6 ⟨rfl, hb6⟩) | (go_at_call 23; refine (HCD.out w6 (hD5.go hb6)).mono ?_; rintro e w7 ⟨rfl, hb7⟩))
            all_goals
              have HE7 := hid (((HA5.out.trans ((hD5.go hb6).go hb7))).out HBW.out)
              go_wp2
              go_ret
              exact ⟨rfl, HE7.out⟩
        · have HAM := hid (fun (n : Nat) => ints_dec T v ▸ among_same _ (ints T) v (w5.drewN n) (HTU.out.below (below_drewN (Below.refl _ _) n)))
          rw [decide_eq_false hin] at HAM
          have t0 := s0 w5 (Aft.refl w5)
          have t1 := s1 w5 (Aft.refl w5)
          have ta' := sa w5 (Aft.refl w5)
          have tc' := sc w5 (Aft.refl w5)
          clear hin HAH2 HCC s0 s1 sa sc
          go_wp2_with fail
          go_quiet ((go_at_call 22; exact quiet_eq (HAM.out _)))
          obtain ⟨wd, hwd⟩ : ∃ wd : World, wd = w5.drewN nq := ⟨_, rfl⟩
          have HED : Hid (Below W.heap.size W wd) := by show Below _ _ _; rw [hwd]; exact below_drewN HE5.out nq
          rw [← hwd]
          clear hwd
          go_wp2
          go_ret
          exact ⟨rfl, HED.out⟩
end Go.Proofs.YtimnjkdhcnhkoaaDoor.FyQ
