/- Walk over the reader's has: its loops. -/
import Derived.Test.YtbebficgcemkoaaGreatDoorZRgZToRgY
import Derived.Test.YtbebficgcemkoaaGreatDoorZRcTToRcI
import Derived.Deep.Cut
namespace Go.Proofs.YtbebficgcemkoaaGreatDoor.RcJ
open Go.RowKit Go.Lib TyM TyP ShM ShP ShB IntO SetP LxM LxJ LxY RwO RdM RdN RdV RdB RdP Fresh Aft RgZ RcP RcA RcB RcC RcD RcT RcN RcU RcH RcI

variable {W : World} {b : Nat} {L : List Ln} {ws : Ln} {reg : Int} {tv : Value} {w : World}

theorem pairs_none {x : ByteArray} {l : Ln} (h : markC 114 l = none) : pairsO (x :: l) = none := by
  cases l with
  | nil => rfl
  | cons y m =>
    rw [markC_cons] at h
    split at h
    · cases h
    · rename_i h2
      unfold pairsO
      rw [if_neg (fun h => h2 h.2)]
theorem pairs_some {x : ByteArray} {l m : Ln} {q : Int} (h1 : (mkN x 98).2 = 0) (h : markC 114 l = some (q, m)) : ∃ y, l = y :: m ∧ pairsO (x :: l) = (pairsO m).map (((mkN x 98).1, q) :: ·) := by
  cases l with
  | nil => cases h
  | cons y m' =>
    rw [markC_cons] at h
    split at h
    · rename_i h2
      cases h
      refine ⟨y, rfl, ?_⟩
      rw [pairsO, if_pos ⟨h1, h2⟩]
    · cases h
set_option maxRecDepth 100000 in
set_option maxHeartbeats 8000000 in
theorem has_none00 {bx : Nat} {op typ : Int} (h : HasS W b L ws reg tv w bx (ix0 op typ) (.slice none 0 0) (.slice none 0 0) w) (htab : ShA.Tab W) (h0 : 0 ≤ op) (h22 : op ≤ 22) (fA : hasAB op = false) (fB : twoB op = false) {qn : Int} {l3 : Ln} (hN : numC op ws = some (qn, l3)) (fR : argsB op = false) :
    Calls Tryz.prog 169 #[.pointer (some ⟨b, 0, none⟩), .pointer (some ⟨bx, 0, none⟩)] w (HasO W b L l3 reg tv bx ⟨op, typ, 0, 0, qn, [], []⟩ w) := by
  have HFA := hid fA
  clear fA
  have HFB := hid fB
  clear fB
  have HN := hid hN
  clear hN
  have HFR := hid fR
  clear fR
  have hA1 := h.on (alloc_below w (.cells #[.int .i64 2] 3))
  have HUS := hid (ShU.uses_calls (askX op) (.slice (some ⟨w.heap.size, 0, none⟩) 1 1) (.slice none 0 0) (w.alloc (.cells #[.int .i64 2] 3)) h0 (by show op ≤ 255; omega) (htab.on (h.rdr.be.trans ((alloc_below w _).mono h.rdr.be.size))) (ints_one (cell_new _ _ _ _ rfl) (size_new _ _ _ rfl)) (by show 1 ≤ 1000; omega) ⟨_, _, _, rfl⟩)
  rw [show ixV (askX op) (.slice (some ⟨w.heap.size, 0, none⟩) 1 1) (.slice none 0 0) = .agg #[.int .u8 op, .int .i64 0, .int .i64 0, .int .i64 1, .int .i64 0, .slice (some ⟨w.heap.size, 0, none⟩) 1 1, .slice none 0 0] from rfl] at HUS
  unfold OwnI at HUS
  have HA1 := hid hA1
  have f0 : w.cell? ⟨bx, 0, none⟩ = some (.int .u8 op) := h.facts.1.1
  have hbx := h.lt
  clear h hA1 htab h0 h22
  go_enter Tryz.func169, Tryz.ntmps169
  go_wp2_with fail
  refine HUS.out.mono ?_
  rintro e w1 ⟨uv, un, rfl, huo, hb1⟩
  have hun : un = (usesOf (askX op)).length := by have := huo.1; rw [intVals_length] at this; omega
  subst hun
  have HS1 := hid (HA1.out.on hb1)
  have HQ1 : Hid (AskS w op uv (.slice none 0 0) (.slice none 0 0) w1) := ⟨owns_base huo (by simp), (fun g h1 h2 => by cases h2), (fun g h1 h2 => by cases h2)⟩
  obtain ⟨ua, uc, rfl⟩ := own_form huo
  clear huo hb1 HUS HA1 f0
  go_wp2_with fail
  have HC := hid (contains_calls _ _ 0 w1 HQ1.out.ints)
  rw [ask_A, HFA.out] at HC
  refine HC.out.mono ?_
  rintro e w' ⟨rfl, rfl⟩
  clear HC
  have HF0 : Hid (w1.cell? ⟨bx, 0, none⟩ = some (.int .u8 op)) := HS1.out.facts.1.1
  go_wp2_with fail
  have HC := hid (contains_calls _ _ 1 w1 HQ1.out.ints)
  rw [ask_B, HFB.out] at HC
  refine HC.out.mono ?_
  rintro e w' ⟨rfl, rfl⟩
  clear HC
  have f0 := HF0.out
  go_wp2_with fail
  clear f0
  refine (number_yes HS1.out.rdr HN.out).mono ?_
  rintro e w2 ⟨rfl, hr, hk⟩
  have hs := HS1.out.go hr hk
  have hq := HQ1.out.go HS1.out.rdr hk
  have g4 := hs.facts.1.2.2.2.2.1
  have gz4 := hs.facts.2 4
  obtain ⟨w3, hX⟩ : ∃ X, X = w2.setCell ⟨bx, 4, none⟩ (.int .i64 qn) := ⟨_, rfl⟩
  have HX := hid hX
  have HSM : Hid (HasS W b L l3 reg tv w bx ⟨op, typ, 0, 0, qn, [], []⟩ (.slice none 0 0) (.slice none 0 0) w3) := by show HasS _ _ _ _ _ _ _ _ _ _ _ _; rw [hX]; exact hs.set (hs.box.setN qn)
  have HQM : Hid (AskS w op (.slice ua (usesOf (askX op)).length uc) (.slice none 0 0) (.slice none 0 0) w3) := by show AskS _ _ _ _ _ _; rw [hX]; exact hq.set hs.box _
  have HL3 := hid hr.fw.1
  clear hr hk hs hq hX HS1 HQ1 HF0
  go_wp2_with fail
  rw [← HX.out]
  clear g4 gz4 HX
  go_loopg [] 0 (fun gk wr => wr = w3)
  case atStart => rfl
  case round =>
    subst hrel
    go_wp2_with fail
    have HC := hid (contains_calls _ _ 2 _ HQM.out.ints)
    rw [ask_R, HFR.out] at HC
    refine HC.out.mono ?_
    rintro e w' ⟨rfl, rfl⟩
    clear HC
    go_wp2
    go_end0
    exact ⟨rfl, _, _, HSM.out⟩
set_option maxRecDepth 100000 in
set_option maxHeartbeats 8000000 in
theorem has_args00W {bx : Nat} {op typ : Int} (h : HasS W b L ws reg tv w bx (ix0 op typ) (.slice none 0 0) (.slice none 0 0) w) (htab : ShA.Tab W) (h0 : 0 ≤ op) (h22 : op ≤ 22) {Q : Ending → World → Prop} (fA : hasAB op = false) (fB : twoB op = false) {qn : Int} {l3 : Ln} (hN : numC op ws = some (qn, l3)) (fR : argsB op = true) (ho : (op == 22) = false) (hy : ∀ r, marksO 114 l3 = some r → ∀ e w', HasO W b L [] reg tv bx ⟨op, typ, 0, 0, qn, r, []⟩ w e w' → Q e w') (hn : marksO 114 l3 = none → ∀ e w', Out2 b bx w e w' → Q e w') :
    Calls Tryz.prog 169 #[.pointer (some ⟨b, 0, none⟩), .pointer (some ⟨bx, 0, none⟩)] w (Q) := by
  have HY := hid hy
  have HNN := hid hn
  clear hy hn
  have HFA := hid fA
  clear fA
  have HFB := hid fB
  clear fB
  have HN := hid hN
  clear hN
  have HFR := hid fR
  clear fR
  have HOP := hid ho
  clear ho
  have hA1 := h.on (alloc_below w (.cells #[.int .i64 2] 3))
  have HUS := hid (ShU.uses_calls (askX op) (.slice (some ⟨w.heap.size, 0, none⟩) 1 1) (.slice none 0 0) (w.alloc (.cells #[.int .i64 2] 3)) h0 (by show op ≤ 255; omega) (htab.on (h.rdr.be.trans ((alloc_below w _).mono h.rdr.be.size))) (ints_one (cell_new _ _ _ _ rfl) (size_new _ _ _ rfl)) (by show 1 ≤ 1000; omega) ⟨_, _, _, rfl⟩)
  rw [show ixV (askX op) (.slice (some ⟨w.heap.size, 0, none⟩) 1 1) (.slice none 0 0) = .agg #[.int .u8 op, .int .i64 0, .int .i64 0, .int .i64 1, .int .i64 0, .slice (some ⟨w.heap.size, 0, none⟩) 1 1, .slice none 0 0] from rfl] at HUS
  unfold OwnI at HUS
  have HA1 := hid hA1
  have f0 : w.cell? ⟨bx, 0, none⟩ = some (.int .u8 op) := h.facts.1.1
  have hbx := h.lt
  clear h hA1 htab h0 h22
  go_enter Tryz.func169, Tryz.ntmps169
  go_wp2_with fail
  refine HUS.out.mono ?_
  rintro e w1 ⟨uv, un, rfl, huo, hb1⟩
  have hun : un = (usesOf (askX op)).length := by have := huo.1; rw [intVals_length] at this; omega
  subst hun
  have HS1 := hid (HA1.out.on hb1)
  have HQ1 : Hid (AskS w op uv (.slice none 0 0) (.slice none 0 0) w1) := ⟨owns_base huo (by simp), (fun g h1 h2 => by cases h2), (fun g h1 h2 => by cases h2)⟩
  obtain ⟨ua, uc, rfl⟩ := own_form huo
  clear huo hb1 HUS HA1 f0
  go_wp2_with fail
  have HC := hid (contains_calls _ _ 0 w1 HQ1.out.ints)
  rw [ask_A, HFA.out] at HC
  refine HC.out.mono ?_
  rintro e w' ⟨rfl, rfl⟩
  clear HC
  have HF0 : Hid (w1.cell? ⟨bx, 0, none⟩ = some (.int .u8 op)) := HS1.out.facts.1.1
  go_wp2_with fail
  have HC := hid (contains_calls _ _ 1 w1 HQ1.out.ints)
  rw [ask_B, HFB.out] at HC
  refine HC.out.mono ?_
  rintro e w' ⟨rfl, rfl⟩
  clear HC
  have f0 := HF0.out
  go_wp2_with fail
  clear f0
  refine (number_yes HS1.out.rdr HN.out).mono ?_
  rintro e w2 ⟨rfl, hr, hk⟩
  have hs := HS1.out.go hr hk
  have hq := HQ1.out.go HS1.out.rdr hk
  have g4 := hs.facts.1.2.2.2.2.1
  have gz4 := hs.facts.2 4
  obtain ⟨w3, hX⟩ : ∃ X, X = w2.setCell ⟨bx, 4, none⟩ (.int .i64 qn) := ⟨_, rfl⟩
  have HX := hid hX
  have HSM : Hid (HasS W b L l3 reg tv w bx ⟨op, typ, 0, 0, qn, [], []⟩ (.slice none 0 0) (.slice none 0 0) w3) := by show HasS _ _ _ _ _ _ _ _ _ _ _ _; rw [hX]; exact hs.set (hs.box.setN qn)
  have HQM : Hid (AskS w op (.slice ua (usesOf (askX op)).length uc) (.slice none 0 0) (.slice none 0 0) w3) := by show AskS _ _ _ _ _ _; rw [hX]; exact hq.set hs.box _
  have HL3 := hid hr.fw.1
  clear hr hk hs hq hX HS1 HQ1 HF0
  go_wp2_with fail
  rw [← HX.out]
  clear g4 gz4 HX
  go_loopg [] l3.length (fun gk wr => ∃ (k : Nat) (xs : List Int) (va : Value), k + gk = l3.length ∧ xs.length = k ∧ marksO 114 l3 = (marksO 114 (l3.drop k)).map (xs ++ ·) ∧ HasS W b L (l3.drop k) reg tv w bx ⟨op, typ, 0, 0, qn, xs, []⟩ va (.slice none 0 0) wr ∧ AskS w op (.slice ua (usesOf (askX op)).length uc) va (.slice none 0 0) wr)
  case atStart => exact ⟨0, [], _, by omega, rfl, by simp, HSM.out, HQM.out⟩
  case round =>
    obtain ⟨k, xs, va, hk, hxk, hm, hs, hq⟩ := hrel
    clear HSM HQM
    obtain ⟨pa, pc, hpa0⟩ := own_form hs.box.owa
    have hpa : va = .slice pa xs.length pc := by simpa using hpa0
    clear hpa0
    subst hpa
    have HK := hid hk
    have HXK := hid hxk
    obtain ⟨la, lc, wa, wc, c0, c1, c2, c3, hfz, _, _, hb, _, hwn⟩ := hs.rdr.facts
    have f0 : wr.cell? ⟨bx, 0, none⟩ = some (.int .u8 op) := hs.facts.1.1
    have hop := HOP.out
    clear c0 c2 c3 hfz hk hxk
    cases hd : l3.drop k with
    | nil =>
      rw [hd] at hm c1 hs
      have HQQ := hid (HY.out xs (by rw [hm]; simp [marksO]))
      have HS1 := hid hs
      have HQ1 := hid hq
      clear hd hs hq hm
      go_wp2_with fail
      have HC := hid (contains_calls _ _ 2 wr HQ1.out.ints)
      rw [ask_R, HFR.out] at HC
      refine HC.out.mono ?_
      rintro e w' ⟨rfl, rfl⟩
      clear HC
      go_wp2
      go_end0
      exact HQQ.out _ _ ⟨rfl, _, _, HS1.out⟩
    | cons x l =>
      have hlt : k < l3.length := by
        have := congrArg List.length hd
        rw [List.length_drop] at this
        simp at this
        omega
      have HLT := hid hlt
      have h0 : (0 : Int) < ((x :: l).length : Int) := by simp only [List.length_cons]; omega
      clear hlt
      have HDK : Hid (l3.drop (k + 1) = l) := by
        show List.drop _ _ = _
        have := List.drop_drop (i := 1) (j := k) (l := l3)
        rw [hd] at this
        simpa [Nat.add_comm] using this.symm
      rw [hd] at hm c1 hs hwn
      clear hd
      have HS1 := hid hs
      have HQ1 := hid hq
      clear hs hq
      by_cases hq1 : (mkN x 114).2 = 0
      rotate_left
      · have HQQ := hid (HNN.out (by rw [hm]; simp [marksO, hq1]))
        have HMK := hid (show markC 114 (x :: l) = none by rw [markC_cons, if_neg hq1])
        clear hm hq1
        generalize hn1 : (x :: l).length = n1 at *
        clear hn1
        go_wp2_with fail
        have HC := hid (contains_calls _ _ 2 wr HQ1.out.ints)
        rw [ask_R, HFR.out] at HC
        refine HC.out.mono ?_
        rintro e w' ⟨rfl, rfl⟩
        clear HC
        go_upto_region 9 with fail
        clear c1 f0 h0 hwn
        have HD := hid HS1.out.draw
        have HV0 : Hid (wr.drew.cell? ⟨bx, 5, none⟩ = some (.slice pa xs.length pc)) := HD.out.facts.1.2.2.2.2.2.1
        have HC := hid (mark_no (c := 114) HD.out.rdr HMK.out)
        rw [show (((114 : UInt8).toNat : Nat) : Int) = 114 from rfl] at HC
        unfold Out at HC
        refine wp_region_Z (S := (fun w' => w'.cell? ⟨bx, 5, none⟩ = some (.slice pa xs.length pc))) (Z := [11]) (by kernel_rfl) ?_ (fun hHeld => ?_)
        · (try dsimp only)
          exact HV0.out
        refine zP 0 rfl ?_
        refine zP 1 rfl ?_
        refine zP 2 rfl ?_
        refine zP 3 rfl ?_
        refine zT 4 rfl ?_
        refine zP 5 rfl ?_
        refine zC 6 rfl (fun K hK => ?_)
        go_simp
        (go_at_call 132)
        refine HC.out.mono ?_
        rintro e w9 ⟨rfl, hk⟩
        have HK9 := hid (HD.out.kept.trans (hk.mono (F := [b, bx]) (by simp)))
        clear hk
        exact ⟨rfl, HQQ.out _ _ ⟨rfl, HK9.out⟩⟩
      have HMK := hid (show markC 114 (x :: l) = some ((mkN x 114).1, l) by rw [markC_cons, if_pos hq1])
      have HM2 : Hid (marksO 114 l3 = (marksO 114 l).map ((xs ++ [(mkN x 114).1]) ++ ·)) := by show _ = _; rw [hm]; simp [marksO, hq1, Function.comp_def]
      clear hm hq1
      generalize (mkN x 114).1 = q at *
      generalize hn1 : (x :: l).length = n1 at *
      clear hn1
      go_wp2_with fail
      have HC := hid (contains_calls _ _ 2 wr HQ1.out.ints)
      rw [ask_R, HFR.out] at HC
      refine HC.out.mono ?_
      rintro e w' ⟨rfl, rfl⟩
      clear HC
      go_upto_region 9 with fail
      clear c1 f0 h0 hwn
      have HD := hid HS1.out.draw
      have HV0 : Hid (wr.drew.cell? ⟨bx, 5, none⟩ = some (.slice pa xs.length pc)) := HD.out.facts.1.2.2.2.2.2.1
      have HE := hid (HQ1.out.on ((Below.refl _ wr).drew))
      have HC := hid (mark_yes (c := 114) HD.out.rdr HMK.out)
      rw [show (((114 : UInt8).toNat : Nat) : Int) = 114 from rfl] at HC
      unfold Goes at HC
      refine wp_region_noPanic ?_
      refine wp_region_Z (S := (fun w' => w'.cell? ⟨bx, 5, none⟩ = some (.slice pa xs.length pc))) (Z := [11]) (by kernel_rfl) ?_ (fun hHeld => ?_)
      · (try dsimp only)
        exact HV0.out
      refine zP 0 rfl ?_
      refine zP 1 rfl ?_
      refine zP 2 rfl ?_
      refine zP 3 rfl ?_
      refine zT 4 rfl ?_
      refine zP 5 rfl ?_
      refine zC 6 rfl (fun K hK => ?_)
      go_simp
      (go_at_call 132; (with_reducible refine HC.out.mono ?_); rintro e w1 ⟨rfl, hr1, hk1⟩; have HS1a := hid (HD.out.go hr1 hk1); have HS2 := hid (HS1a.out.on (alloc_below w1 (.cells #[.int .i64 q] 3))); have HQ2 := hid ((HE.out.go HD.out.rdr hk1).on (alloc_below w1 (.cells #[.int .i64 q] 3))); have HV1 : Hid (w1.cell? ⟨bx, 5, none⟩ = some (.slice pa xs.length pc)) := HS1a.out.facts.1.2.2.2.2.2.1; have HV2 : Hid ((w1.alloc (.cells #[.int .i64 q] 3)).cell? ⟨bx, 5, none⟩ = some (.slice pa xs.length pc)) := HS2.out.facts.1.2.2.2.2.2.1; clear hr1 hk1 HC HS1a)
      refine hK.out _ _ ?_ (fun hHeld => ?_)
      · (try dsimp only)
        exact HV1.out
      clear hK K
      refine zC 7 rfl (fun K hK => ?_)
      go_simp
      refine hK.out _ _ ?_ (fun hHeld => ?_)
      · (try dsimp only)
        exact HV2.out
      clear hK K
      refine zC 8 rfl (fun K hK => ?_)
      rw [if_pos (by rfl)]
      have hcc : (w1.alloc (.cells #[.int .i64 q] 3)).cell? ⟨w1.heap.size, 0, none⟩ = some (.int .i64 q) := cell_new _ _ _ _ rfl
      have hsz : w.heap.size ≤ (w1.alloc (.cells #[.int .i64 q] 3)).heap.size := HS2.out.kept.size
      refine wp_append_int1 (.tmp 66) (.tmp 69) rfl w.heap.size (.slice pa xs.length pc) rfl _ _ HS2.out.box.owa (by have := HXK.out; have := HLT.out; have := HL3.out; simp; omega) w1.heap.size q rfl hcc hsz ?_
      intro v5 w5 h5 hg5 hn5
      obtain ⟨g1, g2⟩ := HS2.out.growA h5 hg5 hn5
      have hq5 := HQ2.out.growA hg5 hn5 g1
      obtain ⟨p5, c5, h50⟩ := own_form h5
      have h55 : v5 = .slice p5 (xs.length + 1) c5 := by simpa using h50
      clear h50
      subst h55
      have HS5 := hid g2
      have HQ5 := hid hq5
      have HB5 := hid g1
      have HV5 : Hid (w5.cell? ⟨bx, 5, none⟩ = some (.slice pa xs.length pc)) := cells_of g1 5 _ rfl
      clear h5 hg5 hn5 g1 g2 hq5 hcc hsz
      refine hK.out _ _ ?_ (fun hHeld => ?_)
      · (try dsimp only)
        exact HV5.out
      clear hK K
      refine zP 9 rfl ?_
      refine zP 10 rfl ?_
      refine zL 11 rfl (fun K hK => ?_)
      have zz := (ShTB.cells_heap HB5.out).2 5
      have yy := HV5.out
      go_simp
      refine hK.out _ _ ?_
      clear hK K
      refine wpAnyZ_done (by kernel_rfl) ?_ _
      refine NoPanic.normal ?_
      go_wp2
      go_roundg (gk - 1)
      case measure => have := HK.out; have := HLT.out; omega
      case rel => exact ⟨k + 1, xs ++ [q], _, by have := HK.out; have := HLT.out; omega, by have := HXK.out; simp; omega, by rw [HDK.out]; exact HM2.out, by rw [HDK.out]; exact HS5.out, HQ5.out⟩
set_option maxRecDepth 100000 in
set_option maxHeartbeats 8000000 in
theorem has_args00 {bx : Nat} {op typ : Int} (h : HasS W b L ws reg tv w bx (ix0 op typ) (.slice none 0 0) (.slice none 0 0) w) (htab : ShA.Tab W) (h0 : 0 ≤ op) (h22 : op ≤ 22) (fA : hasAB op = false) (fB : twoB op = false) {qn : Int} {l3 : Ln} (hN : numC op ws = some (qn, l3)) (fR : argsB op = true) (ho : (op == 22) = false) {r : List Int} (hR : marksO 114 l3 = some r) :
    Calls Tryz.prog 169 #[.pointer (some ⟨b, 0, none⟩), .pointer (some ⟨bx, 0, none⟩)] w (HasO W b L [] reg tv bx ⟨op, typ, 0, 0, qn, r, []⟩ w) := by
  exact has_args00W h htab h0 h22 fA fB hN fR ho (fun r2 h2 => by cases hR.symm.trans h2; exact fun _ _ h => h) (fun h2 => by cases hR.symm.trans h2)
set_option maxRecDepth 100000 in
set_option maxHeartbeats 8000000 in
theorem has_args00_no {bx : Nat} {op typ : Int} (h : HasS W b L ws reg tv w bx (ix0 op typ) (.slice none 0 0) (.slice none 0 0) w) (htab : ShA.Tab W) (h0 : 0 ≤ op) (h22 : op ≤ 22) (fA : hasAB op = false) (fB : twoB op = false) {qn : Int} {l3 : Ln} (hN : numC op ws = some (qn, l3)) (fR : argsB op = true) (ho : (op == 22) = false) (hR : marksO 114 l3 = none) :
    Calls Tryz.prog 169 #[.pointer (some ⟨b, 0, none⟩), .pointer (some ⟨bx, 0, none⟩)] w (Out2 b bx w) := by
  exact has_args00W h htab h0 h22 fA fB hN fR ho (fun r2 h2 => by cases hR.symm.trans h2) (fun _ _ _ h => h)
set_option maxRecDepth 100000 in
set_option maxHeartbeats 8000000 in
theorem has_phi00W {bx : Nat} {op typ : Int} (h : HasS W b L ws reg tv w bx (ix0 op typ) (.slice none 0 0) (.slice none 0 0) w) (htab : ShA.Tab W) (h0 : 0 ≤ op) (h22 : op ≤ 22) {Q : Ending → World → Prop} (fA : hasAB op = false) (fB : twoB op = false) {qn : Int} {l3 : Ln} (hN : numC op ws = some (qn, l3)) (fR : argsB op = true) (ho : (op == 22) = true) (hy : ∀ r, pairsO l3 = some r → ∀ e w', HasO W b L [] reg tv bx ⟨op, typ, 0, 0, qn, (r.map Prod.snd), (r.map Prod.fst)⟩ w e w' → Q e w') (hn : pairsO l3 = none → ∀ e w', Out2 b bx w e w' → Q e w') :
    Calls Tryz.prog 169 #[.pointer (some ⟨b, 0, none⟩), .pointer (some ⟨bx, 0, none⟩)] w (Q) := by
  have HY := hid hy
  have HNN := hid hn
  clear hy hn
  have HFA := hid fA
  clear fA
  have HFB := hid fB
  clear fB
  have HN := hid hN
  clear hN
  have HFR := hid fR
  clear fR
  have HOP := hid ho
  clear ho
  have hA1 := h.on (alloc_below w (.cells #[.int .i64 2] 3))
  have HUS := hid (ShU.uses_calls (askX op) (.slice (some ⟨w.heap.size, 0, none⟩) 1 1) (.slice none 0 0) (w.alloc (.cells #[.int .i64 2] 3)) h0 (by show op ≤ 255; omega) (htab.on (h.rdr.be.trans ((alloc_below w _).mono h.rdr.be.size))) (ints_one (cell_new _ _ _ _ rfl) (size_new _ _ _ rfl)) (by show 1 ≤ 1000; omega) ⟨_, _, _, rfl⟩)
  rw [show ixV (askX op) (.slice (some ⟨w.heap.size, 0, none⟩) 1 1) (.slice none 0 0) = .agg #[.int .u8 op, .int .i64 0, .int .i64 0, .int .i64 1, .int .i64 0, .slice (some ⟨w.heap.size, 0, none⟩) 1 1, .slice none 0 0] from rfl] at HUS
  unfold OwnI at HUS
  have HA1 := hid hA1
  have f0 : w.cell? ⟨bx, 0, none⟩ = some (.int .u8 op) := h.facts.1.1
  have hbx := h.lt
  clear h hA1 htab h0 h22
  go_enter Tryz.func169, Tryz.ntmps169
  go_wp2_with fail
  refine HUS.out.mono ?_
  rintro e w1 ⟨uv, un, rfl, huo, hb1⟩
  have hun : un = (usesOf (askX op)).length := by have := huo.1; rw [intVals_length] at this; omega
  subst hun
  have HS1 := hid (HA1.out.on hb1)
  have HQ1 : Hid (AskS w op uv (.slice none 0 0) (.slice none 0 0) w1) := ⟨owns_base huo (by simp), (fun g h1 h2 => by cases h2), (fun g h1 h2 => by cases h2)⟩
  obtain ⟨ua, uc, rfl⟩ := own_form huo
  clear huo hb1 HUS HA1 f0
  go_wp2_with fail
  have HC := hid (contains_calls _ _ 0 w1 HQ1.out.ints)
  rw [ask_A, HFA.out] at HC
  refine HC.out.mono ?_
  rintro e w' ⟨rfl, rfl⟩
  clear HC
  have HF0 : Hid (w1.cell? ⟨bx, 0, none⟩ = some (.int .u8 op)) := HS1.out.facts.1.1
  go_wp2_with fail
  have HC := hid (contains_calls _ _ 1 w1 HQ1.out.ints)
  rw [ask_B, HFB.out] at HC
  refine HC.out.mono ?_
  rintro e w' ⟨rfl, rfl⟩
  clear HC
  have f0 := HF0.out
  go_wp2_with fail
  clear f0
  refine (number_yes HS1.out.rdr HN.out).mono ?_
  rintro e w2 ⟨rfl, hr, hk⟩
  have hs := HS1.out.go hr hk
  have hq := HQ1.out.go HS1.out.rdr hk
  have g4 := hs.facts.1.2.2.2.2.1
  have gz4 := hs.facts.2 4
  obtain ⟨w3, hX⟩ : ∃ X, X = w2.setCell ⟨bx, 4, none⟩ (.int .i64 qn) := ⟨_, rfl⟩
  have HX := hid hX
  have HSM : Hid (HasS W b L l3 reg tv w bx ⟨op, typ, 0, 0, qn, [], []⟩ (.slice none 0 0) (.slice none 0 0) w3) := by show HasS _ _ _ _ _ _ _ _ _ _ _ _; rw [hX]; exact hs.set (hs.box.setN qn)
  have HQM : Hid (AskS w op (.slice ua (usesOf (askX op)).length uc) (.slice none 0 0) (.slice none 0 0) w3) := by show AskS _ _ _ _ _ _; rw [hX]; exact hq.set hs.box _
  have HL3 := hid hr.fw.1
  clear hr hk hs hq hX HS1 HQ1 HF0
  go_wp2_with fail
  rw [← HX.out]
  clear g4 gz4 HX
  go_loopg [] l3.length (fun gk wr => ∃ (k : Nat) (xs : List (Int × Int)) (va vf : Value), 2 * k + gk = l3.length ∧ xs.length = k ∧ pairsO l3 = (pairsO (l3.drop (2 * k))).map (xs ++ ·) ∧ HasS W b L (l3.drop (2 * k)) reg tv w bx ⟨op, typ, 0, 0, qn, (xs.map Prod.snd), (xs.map Prod.fst)⟩ va vf wr ∧ AskS w op (.slice ua (usesOf (askX op)).length uc) va vf wr)
  case atStart => exact ⟨0, [], _, _, by omega, rfl, by simp, HSM.out, HQM.out⟩
  case round =>
    obtain ⟨k, xs, va, vf, hk, hxk, hm, hs, hq⟩ := hrel
    clear HSM HQM
    obtain ⟨pa, pc, hpa0⟩ := own_form hs.box.owa
    have hpa : va = .slice pa xs.length pc := by simpa using hpa0
    clear hpa0
    subst hpa
    obtain ⟨pf, pg, hpf0⟩ := own_form hs.box.owf
    have hpf : vf = .slice pf xs.length pg := by simpa using hpf0
    clear hpf0
    subst hpf
    have HK := hid hk
    have HXK := hid hxk
    obtain ⟨la, lc, wa, wc, c0, c1, c2, c3, hfz, _, _, hb, _, hwn⟩ := hs.rdr.facts
    have f0 : wr.cell? ⟨bx, 0, none⟩ = some (.int .u8 op) := hs.facts.1.1
    have hop := HOP.out
    clear c0 c2 c3 hfz hk hxk
    cases hd : l3.drop (2 * k) with
    | nil =>
      rw [hd] at hm c1 hs
      have HQQ := hid (HY.out xs (by rw [hm]; simp [pairsO]))
      have HS1 := hid hs
      have HQ1 := hid hq
      clear hd hs hq hm
      go_wp2_with fail
      have HC := hid (contains_calls _ _ 2 wr HQ1.out.ints)
      rw [ask_R, HFR.out] at HC
      refine HC.out.mono ?_
      rintro e w' ⟨rfl, rfl⟩
      clear HC
      go_wp2
      go_end0
      exact HQQ.out _ _ ⟨rfl, _, _, HS1.out⟩
    | cons x l =>
      have hlt : (2 * k) < l3.length := by
        have := congrArg List.length hd
        rw [List.length_drop] at this
        simp at this
        omega
      have HLT := hid hlt
      have h0 : (0 : Int) < ((x :: l).length : Int) := by simp only [List.length_cons]; omega
      clear hlt
      have HDK : Hid (l3.drop (2 * k + 1) = l) := by
        show List.drop _ _ = _
        have := List.drop_drop (i := 1) (j := (2 * k)) (l := l3)
        rw [hd] at this
        simpa [Nat.add_comm] using this.symm
      rw [hd] at hm c1 hs hwn
      clear hd
      have HS1 := hid hs
      have HQ1 := hid hq
      clear hs hq
      by_cases hq1 : (mkN x 98).2 = 0
      rotate_left
      · have HQQ := hid (HNN.out (by rw [hm]; cases l <;> simp [pairsO, hq1]))
        have HMK := hid (show markC 98 (x :: l) = none by rw [markC_cons, if_neg hq1])
        clear hm hq1
        generalize hn1 : (x :: l).length = n1 at *
        clear hn1
        go_wp2_with fail
        have HC := hid (contains_calls _ _ 2 wr HQ1.out.ints)
        rw [ask_R, HFR.out] at HC
        refine HC.out.mono ?_
        rintro e w' ⟨rfl, rfl⟩
        clear HC
        go_upto_region 8 with fail
        clear c1 f0 h0 hwn
        have HD := hid HS1.out.draw
        have HV0 : Hid (wr.drew.cell? ⟨bx, 6, none⟩ = some (.slice pf xs.length pg)) := HD.out.facts.1.2.2.2.2.2.2
        have HC := hid (mark_no (c := 98) HD.out.rdr HMK.out)
        rw [show (((98 : UInt8).toNat : Nat) : Int) = 98 from rfl] at HC
        unfold Out at HC
        refine wp_region_Z (S := (fun w' => w'.cell? ⟨bx, 6, none⟩ = some (.slice pf xs.length pg))) (Z := [11]) (by kernel_rfl) ?_ (fun hHeld => ?_)
        · (try dsimp only)
          exact HV0.out
        refine zP 0 rfl ?_
        refine zP 1 rfl ?_
        refine zP 2 rfl ?_
        refine zP 3 rfl ?_
        refine zT 4 rfl ?_
        refine zP 5 rfl ?_
        refine zC 6 rfl (fun K hK => ?_)
        go_simp
        (go_at_call 132)
        refine HC.out.mono ?_
        rintro e w9 ⟨rfl, hk⟩
        have HK9 := hid (HD.out.kept.trans (hk.mono (F := [b, bx]) (by simp)))
        clear hk
        exact ⟨rfl, HQQ.out _ _ ⟨rfl, HK9.out⟩⟩
      have HMK := hid (show markC 98 (x :: l) = some ((mkN x 98).1, l) by rw [markC_cons, if_pos hq1])
      have HMM := hid hm
      have HX1 := hid hq1
      clear hm hq1
      obtain ⟨qb1, hqb⟩ : ∃ q, q = (mkN x 98).1 := ⟨_, rfl⟩
      have HB1 := hid hqb
      rw [← hqb] at HMK
      clear hqb
      generalize hn1 : (x :: l).length = n1 at *
      clear hn1
      go_wp2_with fail
      have HC := hid (contains_calls _ _ 2 wr HQ1.out.ints)
      rw [ask_R, HFR.out] at HC
      refine HC.out.mono ?_
      rintro e w' ⟨rfl, rfl⟩
      clear HC
      go_upto_region 8 with fail
      clear c1 f0 h0 hwn
      have HD := hid HS1.out.draw
      have HV0 : Hid (wr.drew.cell? ⟨bx, 6, none⟩ = some (.slice pf xs.length pg)) := HD.out.facts.1.2.2.2.2.2.2
      have HE := hid (HQ1.out.on ((Below.refl _ wr).drew))
      have HC := hid (mark_yes (c := 98) HD.out.rdr HMK.out)
      rw [show (((98 : UInt8).toNat : Nat) : Int) = 98 from rfl] at HC
      unfold Goes at HC
      refine wp_region_noPanic ?_
      refine wp_region_Z (S := (fun w' => w'.cell? ⟨bx, 6, none⟩ = some (.slice pf xs.length pg))) (Z := [11]) (by kernel_rfl) ?_ (fun hHeld => ?_)
      · (try dsimp only)
        exact HV0.out
      refine zP 0 rfl ?_
      refine zP 1 rfl ?_
      refine zP 2 rfl ?_
      refine zP 3 rfl ?_
      refine zT 4 rfl ?_
      refine zP 5 rfl ?_
      refine zC 6 rfl (fun K hK => ?_)
      go_simp
      (go_at_call 132; (with_reducible refine HC.out.mono ?_); rintro e w1 ⟨rfl, hr1, hk1⟩; have HS1a := hid (HD.out.go hr1 hk1); have HS2 := hid (HS1a.out.on (alloc_below w1 (.cells #[.int .i64 qb1] 3))); have HQ2 := hid ((HE.out.go HD.out.rdr hk1).on (alloc_below w1 (.cells #[.int .i64 qb1] 3))); have HV1 : Hid (w1.cell? ⟨bx, 6, none⟩ = some (.slice pf xs.length pg)) := HS1a.out.facts.1.2.2.2.2.2.2; have HV2 : Hid ((w1.alloc (.cells #[.int .i64 qb1] 3)).cell? ⟨bx, 6, none⟩ = some (.slice pf xs.length pg)) := HS2.out.facts.1.2.2.2.2.2.2; clear hr1 hk1 HC HS1a)
      refine hK.out _ _ ?_ (fun hHeld => ?_)
      · (try dsimp only)
        exact HV1.out
      clear hK K
      refine zC 7 rfl (fun K hK => ?_)
      go_simp
      refine hK.out _ _ ?_ (fun hHeld => ?_)
      · (try dsimp only)
        exact HV2.out
      clear hK K
      refine zC 8 rfl (fun K hK => ?_)
      rw [if_pos (by rfl)]
      have hcc : (w1.alloc (.cells #[.int .i64 qb1] 3)).cell? ⟨w1.heap.size, 0, none⟩ = some (.int .i64 qb1) := cell_new _ _ _ _ rfl
      have hsz : w.heap.size ≤ (w1.alloc (.cells #[.int .i64 qb1] 3)).heap.size := HS2.out.kept.size
      refine wp_append_int1 (.tmp 55) (.tmp 58) rfl w.heap.size (.slice pf xs.length pg) rfl _ _ HS2.out.box.owf (by have := HXK.out; have := HLT.out; have := HL3.out; simp; omega) w1.heap.size qb1 rfl hcc hsz ?_
      intro v5 w5 h5 hg5 hn5
      obtain ⟨g1, g2⟩ := HS2.out.growF h5 hg5 hn5
      have hq5 := HQ2.out.growF hg5 hn5 g1
      obtain ⟨p5, c5, h50⟩ := own_form h5
      have h55 : v5 = .slice p5 (xs.length + 1) c5 := by simpa using h50
      clear h50
      subst h55
      have HS5 := hid g2
      have HQ5 := hid hq5
      have HB5 := hid g1
      have HV5 : Hid (w5.cell? ⟨bx, 6, none⟩ = some (.slice pf xs.length pg)) := cells_of g1 6 _ rfl
      clear h5 hg5 hn5 g1 g2 hq5 hcc hsz
      refine hK.out _ _ ?_ (fun hHeld => ?_)
      · (try dsimp only)
        exact HV5.out
      clear hK K
      refine zP 9 rfl ?_
      refine zP 10 rfl ?_
      refine zL 11 rfl (fun K hK => ?_)
      have zz := (ShTB.cells_heap HB5.out).2 6
      have yy := HV5.out
      go_simp
      refine hK.out _ _ ?_
      clear hK K
      refine wpAnyZ_done (by kernel_rfl) ?_ _
      refine NoPanic.normal ?_
      obtain ⟨X5, hX5⟩ : ∃ X, X = w5.setCell ⟨bx, 6, none⟩ (.slice p5 (xs.length + 1) c5) := ⟨_, rfl⟩
      rw [← hX5]
      have HS6 := HS5.out
      have HQ6 := HQ5.out
      rw [← hX5] at HS6 HQ6
      have HS7 := hid HS6
      have HQ7 := hid HQ6
      have f1 : X5.cell? ⟨bx, 0, none⟩ = some (.int .u8 op) := HS6.facts.1.1
      clear HS5 HQ5 HS6 HQ6 HS1 HQ1 HS2 HQ2 HV0 HV1 HV2 HV5 HB5 HD HE hX5
      go_upto_region 9 with fail
      clear f1
      cases hrm : markC 114 l with
      | none =>
        have HQQ := hid (HNN.out (by rw [HMM.out, pairs_none hrm]; rfl))
        have HMR := hid hrm
        clear hrm
        have HD := hid HS7.out.draw
        have HV0 : Hid (X5.drew.cell? ⟨bx, 5, none⟩ = some (.slice pa xs.length pc)) := HD.out.facts.1.2.2.2.2.2.1
        have HC := hid (mark_no (c := 114) HD.out.rdr HMR.out)
        rw [show (((114 : UInt8).toNat : Nat) : Int) = 114 from rfl] at HC
        unfold Out at HC
        refine wp_region_Z (S := (fun w' => w'.cell? ⟨bx, 5, none⟩ = some (.slice pa xs.length pc))) (Z := [11]) (by kernel_rfl) ?_ (fun hHeld => ?_)
        · (try dsimp only)
          exact HV0.out
        refine zP 0 rfl ?_
        refine zP 1 rfl ?_
        refine zP 2 rfl ?_
        refine zP 3 rfl ?_
        refine zT 4 rfl ?_
        refine zP 5 rfl ?_
        refine zC 6 rfl (fun K hK => ?_)
        go_simp
        (go_at_call 132)
        refine HC.out.mono ?_
        rintro e w9 ⟨rfl, hk⟩
        have HK9 := hid (HD.out.kept.trans (hk.mono (F := [b, bx]) (by simp)))
        clear hk
        exact ⟨rfl, HQQ.out _ _ ⟨rfl, HK9.out⟩⟩
      | some qm =>
        obtain ⟨qr1, m⟩ := qm
        obtain ⟨y, hl, hp⟩ := pairs_some HX1.out hrm
        have HM2 : Hid (pairsO l3 = (pairsO m).map ((xs ++ [(qb1, qr1)]) ++ ·)) := by show _ = _; rw [HMM.out, hp, ← HB1.out]; simp [Function.comp_def]
        have HMR := hid hrm
        have HDL := HDK.out
        rw [hl] at HDL
        have HLT2 : Hid (2 * k + 1 < l3.length) := by
          show _ < _
          have := congrArg List.length HDL
          rw [List.length_drop] at this
          simp at this
          omega
        have HDK2 : Hid (l3.drop (2 * k + 1 + 1) = m) := by
          show List.drop _ _ = _
          have := List.drop_drop (i := 1) (j := 2 * k + 1) (l := l3)
          rw [HDL] at this
          simpa [Nat.add_comm] using this.symm
        clear hrm hp hl HDL
        have HD := hid HS7.out.draw
        have HV0 : Hid (X5.drew.cell? ⟨bx, 5, none⟩ = some (.slice pa xs.length pc)) := HD.out.facts.1.2.2.2.2.2.1
        have HE := hid (HQ7.out.on ((Below.refl _ X5).drew))
        have HC := hid (mark_yes (c := 114) HD.out.rdr HMR.out)
        rw [show (((114 : UInt8).toNat : Nat) : Int) = 114 from rfl] at HC
        unfold Goes at HC
        refine wp_region_noPanic ?_
        refine wp_region_Z (S := (fun w' => w'.cell? ⟨bx, 5, none⟩ = some (.slice pa xs.length pc))) (Z := [11]) (by kernel_rfl) ?_ (fun hHeld => ?_)
        · (try dsimp only)
          exact HV0.out
        refine zP 0 rfl ?_
        refine zP 1 rfl ?_
        refine zP 2 rfl ?_
        refine zP 3 rfl ?_
        refine zT 4 rfl ?_
        refine zP 5 rfl ?_
        refine zC 6 rfl (fun K hK => ?_)
        go_simp
        (go_at_call 132; (with_reducible refine HC.out.mono ?_); rintro e w1 ⟨rfl, hr1, hk1⟩; have HS1a := hid (HD.out.go hr1 hk1); have HS2 := hid (HS1a.out.on (alloc_below w1 (.cells #[.int .i64 qr1] 3))); have HQ2 := hid ((HE.out.go HD.out.rdr hk1).on (alloc_below w1 (.cells #[.int .i64 qr1] 3))); have HV1 : Hid (w1.cell? ⟨bx, 5, none⟩ = some (.slice pa xs.length pc)) := HS1a.out.facts.1.2.2.2.2.2.1; have HV2 : Hid ((w1.alloc (.cells #[.int .i64 qr1] 3)).cell? ⟨bx, 5, none⟩ = some (.slice pa xs.length pc)) := HS2.out.facts.1.2.2.2.2.2.1; clear hr1 hk1 HC HS1a)
        refine hK.out _ _ ?_ (fun hHeld => ?_)
        · (try dsimp only)
          exact HV1.out
        clear hK K
        refine zC 7 rfl (fun K hK => ?_)
        go_simp
        refine hK.out _ _ ?_ (fun hHeld => ?_)
        · (try dsimp only)
          exact HV2.out
        clear hK K
        refine zC 8 rfl (fun K hK => ?_)
        rw [if_pos (by rfl)]
        have hcc : (w1.alloc (.cells #[.int .i64 qr1] 3)).cell? ⟨w1.heap.size, 0, none⟩ = some (.int .i64 qr1) := cell_new _ _ _ _ rfl
        have hsz : w.heap.size ≤ (w1.alloc (.cells #[.int .i64 qr1] 3)).heap.size := HS2.out.kept.size
        refine wp_append_int1 (.tmp 66) (.tmp 69) rfl w.heap.size (.slice pa xs.length pc) rfl _ _ HS2.out.box.owa (by have := HXK.out; have := HLT.out; have := HL3.out; simp; omega) w1.heap.size qr1 rfl hcc hsz ?_
        intro v5 w5 h5 hg5 hn5
        obtain ⟨g1, g2⟩ := HS2.out.growA h5 hg5 hn5
        have hq5 := HQ2.out.growA hg5 hn5 g1
        obtain ⟨p5, c5, h50⟩ := own_form h5
        have h55 : v5 = .slice p5 (xs.length + 1) c5 := by simpa using h50
        clear h50
        subst h55
        have HS5 := hid g2
        have HQ5 := hid hq5
        have HB5 := hid g1
        have HV5 : Hid (w5.cell? ⟨bx, 5, none⟩ = some (.slice pa xs.length pc)) := cells_of g1 5 _ rfl
        clear h5 hg5 hn5 g1 g2 hq5 hcc hsz
        refine hK.out _ _ ?_ (fun hHeld => ?_)
        · (try dsimp only)
          exact HV5.out
        clear hK K
        refine zP 9 rfl ?_
        refine zP 10 rfl ?_
        refine zL 11 rfl (fun K hK => ?_)
        have zz := (ShTB.cells_heap HB5.out).2 5
        have yy := HV5.out
        go_simp
        refine hK.out _ _ ?_
        clear hK K
        refine wpAnyZ_done (by kernel_rfl) ?_ _
        refine NoPanic.normal ?_
        go_wp2
        go_roundg (gk - 2)
        case measure => have := HK.out; have := HLT2.out; omega
        case rel => exact ⟨k + 1, xs ++ [(qb1, qr1)], _, _, by have := HK.out; have := HLT2.out; omega, by have := HXK.out; simp; omega, by rw [show 2 * (k + 1) = 2 * k + 1 + 1 by omega, HDK2.out]; exact HM2.out, by rw [show 2 * (k + 1) = 2 * k + 1 + 1 by omega, HDK2.out]; simpa using HS5.out, HQ5.out⟩
set_option maxRecDepth 100000 in
set_option maxHeartbeats 8000000 in
theorem has_phi00 {bx : Nat} {op typ : Int} (h : HasS W b L ws reg tv w bx (ix0 op typ) (.slice none 0 0) (.slice none 0 0) w) (htab : ShA.Tab W) (h0 : 0 ≤ op) (h22 : op ≤ 22) (fA : hasAB op = false) (fB : twoB op = false) {qn : Int} {l3 : Ln} (hN : numC op ws = some (qn, l3)) (fR : argsB op = true) (ho : (op == 22) = true) {r : List (Int × Int)} (hR : pairsO l3 = some r) :
    Calls Tryz.prog 169 #[.pointer (some ⟨b, 0, none⟩), .pointer (some ⟨bx, 0, none⟩)] w (HasO W b L [] reg tv bx ⟨op, typ, 0, 0, qn, (r.map Prod.snd), (r.map Prod.fst)⟩ w) := by
  exact has_phi00W h htab h0 h22 fA fB hN fR ho (fun r2 h2 => by cases hR.symm.trans h2; exact fun _ _ h => h) (fun h2 => by cases hR.symm.trans h2)
set_option maxRecDepth 100000 in
set_option maxHeartbeats 8000000 in
theorem has_phi00_no {bx : Nat} {op typ : Int} (h : HasS W b L ws reg tv w bx (ix0 op typ) (.slice none 0 0) (.slice none 0 0) w) (htab : ShA.Tab W) (h0 : 0 ≤ op) (h22 : op ≤ 22) (fA : hasAB op = false) (fB : twoB op = false) {qn : Int} {l3 : Ln} (hN : numC op ws = some (qn, l3)) (fR : argsB op = true) (ho : (op == 22) = true) (hR : pairsO l3 = none) :
    Calls Tryz.prog 169 #[.pointer (some ⟨b, 0, none⟩), .pointer (some ⟨bx, 0, none⟩)] w (Out2 b bx w) := by
  exact has_phi00W h htab h0 h22 fA fB hN fR ho (fun r2 h2 => by cases hR.symm.trans h2) (fun _ _ _ h => h)
set_option maxRecDepth 100000 in
set_option maxHeartbeats 8000000 in
theorem has_none10 {bx : Nat} {op typ : Int} (h : HasS W b L ws reg tv w bx (ix0 op typ) (.slice none 0 0) (.slice none 0 0) w) (htab : ShA.Tab W) (h0 : 0 ≤ op) (h22 : op ≤ 22) (fA : hasAB op = true) (fB : twoB op = false) {qa : Int} {l1 : Ln} (hA : markC 114 ws = some (qa, l1)) {qn : Int} {l3 : Ln} (hN : numC op l1 = some (qn, l3)) (fR : argsB op = false) :
    Calls Tryz.prog 169 #[.pointer (some ⟨b, 0, none⟩), .pointer (some ⟨bx, 0, none⟩)] w (HasO W b L l3 reg tv bx ⟨op, typ, qa, 0, qn, [], []⟩ w) := by
  have HFA := hid fA
  clear fA
  have HFB := hid fB
  clear fB
  have HA := hid hA
  clear hA
  have HN := hid hN
  clear hN
  have HFR := hid fR
  clear fR
  have hA1 := h.on (alloc_below w (.cells #[.int .i64 2] 3))
  have HUS := hid (ShU.uses_calls (askX op) (.slice (some ⟨w.heap.size, 0, none⟩) 1 1) (.slice none 0 0) (w.alloc (.cells #[.int .i64 2] 3)) h0 (by show op ≤ 255; omega) (htab.on (h.rdr.be.trans ((alloc_below w _).mono h.rdr.be.size))) (ints_one (cell_new _ _ _ _ rfl) (size_new _ _ _ rfl)) (by show 1 ≤ 1000; omega) ⟨_, _, _, rfl⟩)
  rw [show ixV (askX op) (.slice (some ⟨w.heap.size, 0, none⟩) 1 1) (.slice none 0 0) = .agg #[.int .u8 op, .int .i64 0, .int .i64 0, .int .i64 1, .int .i64 0, .slice (some ⟨w.heap.size, 0, none⟩) 1 1, .slice none 0 0] from rfl] at HUS
  unfold OwnI at HUS
  have HA1 := hid hA1
  have f0 : w.cell? ⟨bx, 0, none⟩ = some (.int .u8 op) := h.facts.1.1
  have hbx := h.lt
  clear h hA1 htab h0 h22
  go_enter Tryz.func169, Tryz.ntmps169
  go_wp2_with fail
  refine HUS.out.mono ?_
  rintro e w1 ⟨uv, un, rfl, huo, hb1⟩
  have hun : un = (usesOf (askX op)).length := by have := huo.1; rw [intVals_length] at this; omega
  subst hun
  have HS1 := hid (HA1.out.on hb1)
  have HQ1 : Hid (AskS w op uv (.slice none 0 0) (.slice none 0 0) w1) := ⟨owns_base huo (by simp), (fun g h1 h2 => by cases h2), (fun g h1 h2 => by cases h2)⟩
  obtain ⟨ua, uc, rfl⟩ := own_form huo
  clear huo hb1 HUS HA1 f0
  go_wp2_with fail
  have HC := hid (contains_calls _ _ 0 w1 HQ1.out.ints)
  rw [ask_A, HFA.out] at HC
  refine HC.out.mono ?_
  rintro e w' ⟨rfl, rfl⟩
  clear HC
  go_wp2_with fail
  refine (mark_yes (c := 114) HS1.out.rdr HA.out).mono ?_
  rintro e w2 ⟨rfl, hr, hk⟩
  have hs := HS1.out.go hr hk
  have hq := HQ1.out.go HS1.out.rdr hk
  obtain ⟨⟨_, _, g2, g3, _⟩, gz⟩ := hs.facts
  have gz2 := gz 2
  obtain ⟨w3, hX⟩ : ∃ X, X = w2.setCell ⟨bx, 2, none⟩ (.int .i64 qa) := ⟨_, rfl⟩
  have HX := hid hX
  have HS3 : Hid (HasS W b L l1 reg tv w bx ⟨op, typ, qa, 0, 0, [], []⟩ (.slice none 0 0) (.slice none 0 0) w3) := by show HasS _ _ _ _ _ _ _ _ _ _ _ _; rw [hX]; exact hs.set (hs.box.setA qa)
  have HQ3 : Hid (AskS w op (.slice ua (usesOf (askX op)).length uc) (.slice none 0 0) (.slice none 0 0) w3) := by show AskS _ _ _ _ _ _; rw [hX]; exact hq.set hs.box _
  have HF0 : Hid (w3.cell? ⟨bx, 0, none⟩ = some (.int .u8 op)) := HS3.out.facts.1.1
  have f0 := HF0.out
  clear hr hk hs hq gz hX HS1 HQ1
  rw [HX.out] at f0
  go_wp2_with fail
  rw [← HX.out]
  clear f0 g2 g3 gz2 HX
  have HC := hid (contains_calls _ _ 1 w3 HQ3.out.ints)
  rw [ask_B, HFB.out] at HC
  refine HC.out.mono ?_
  rintro e w' ⟨rfl, rfl⟩
  clear HC
  have f0 := HF0.out
  go_wp2_with fail
  clear f0
  refine (number_yes HS3.out.rdr HN.out).mono ?_
  rintro e w4 ⟨rfl, hr, hk⟩
  have hs := HS3.out.go hr hk
  have hq := HQ3.out.go HS3.out.rdr hk
  have g4 := hs.facts.1.2.2.2.2.1
  have gz4 := hs.facts.2 4
  obtain ⟨w5, hX⟩ : ∃ X, X = w4.setCell ⟨bx, 4, none⟩ (.int .i64 qn) := ⟨_, rfl⟩
  have HX := hid hX
  have HSM : Hid (HasS W b L l3 reg tv w bx ⟨op, typ, qa, 0, qn, [], []⟩ (.slice none 0 0) (.slice none 0 0) w5) := by show HasS _ _ _ _ _ _ _ _ _ _ _ _; rw [hX]; exact hs.set (hs.box.setN qn)
  have HQM : Hid (AskS w op (.slice ua (usesOf (askX op)).length uc) (.slice none 0 0) (.slice none 0 0) w5) := by show AskS _ _ _ _ _ _; rw [hX]; exact hq.set hs.box _
  have HL3 := hid hr.fw.1
  clear hr hk hs hq hX HS3 HQ3 HF0
  go_wp2_with fail
  rw [← HX.out]
  clear g4 gz4 HX
  go_loopg [] 0 (fun gk wr => wr = w5)
  case atStart => rfl
  case round =>
    subst hrel
    go_wp2_with fail
    have HC := hid (contains_calls _ _ 2 _ HQM.out.ints)
    rw [ask_R, HFR.out] at HC
    refine HC.out.mono ?_
    rintro e w' ⟨rfl, rfl⟩
    clear HC
    go_wp2
    go_end0
    exact ⟨rfl, _, _, HSM.out⟩
set_option maxRecDepth 100000 in
set_option maxHeartbeats 8000000 in
theorem has_args10W {bx : Nat} {op typ : Int} (h : HasS W b L ws reg tv w bx (ix0 op typ) (.slice none 0 0) (.slice none 0 0) w) (htab : ShA.Tab W) (h0 : 0 ≤ op) (h22 : op ≤ 22) {Q : Ending → World → Prop} (fA : hasAB op = true) (fB : twoB op = false) {qa : Int} {l1 : Ln} (hA : markC 114 ws = some (qa, l1)) {qn : Int} {l3 : Ln} (hN : numC op l1 = some (qn, l3)) (fR : argsB op = true) (ho : (op == 22) = false) (hy : ∀ r, marksO 114 l3 = some r → ∀ e w', HasO W b L [] reg tv bx ⟨op, typ, qa, 0, qn, r, []⟩ w e w' → Q e w') (hn : marksO 114 l3 = none → ∀ e w', Out2 b bx w e w' → Q e w') :
    Calls Tryz.prog 169 #[.pointer (some ⟨b, 0, none⟩), .pointer (some ⟨bx, 0, none⟩)] w (Q) := by
  have HY := hid hy
  have HNN := hid hn
  clear hy hn
  have HFA := hid fA
  clear fA
  have HFB := hid fB
  clear fB
  have HA := hid hA
  clear hA
  have HN := hid hN
  clear hN
  have HFR := hid fR
  clear fR
  have HOP := hid ho
  clear ho
  have hA1 := h.on (alloc_below w (.cells #[.int .i64 2] 3))
  have HUS := hid (ShU.uses_calls (askX op) (.slice (some ⟨w.heap.size, 0, none⟩) 1 1) (.slice none 0 0) (w.alloc (.cells #[.int .i64 2] 3)) h0 (by show op ≤ 255; omega) (htab.on (h.rdr.be.trans ((alloc_below w _).mono h.rdr.be.size))) (ints_one (cell_new _ _ _ _ rfl) (size_new _ _ _ rfl)) (by show 1 ≤ 1000; omega) ⟨_, _, _, rfl⟩)
  rw [show ixV (askX op) (.slice (some ⟨w.heap.size, 0, none⟩) 1 1) (.slice none 0 0) = .agg #[.int .u8 op, .int .i64 0, .int .i64 0, .int .i64 1, .int .i64 0, .slice (some ⟨w.heap.size, 0, none⟩) 1 1, .slice none 0 0] from rfl] at HUS
  unfold OwnI at HUS
  have HA1 := hid hA1
  have f0 : w.cell? ⟨bx, 0, none⟩ = some (.int .u8 op) := h.facts.1.1
  have hbx := h.lt
  clear h hA1 htab h0 h22
  go_enter Tryz.func169, Tryz.ntmps169
  go_wp2_with fail
  refine HUS.out.mono ?_
  rintro e w1 ⟨uv, un, rfl, huo, hb1⟩
  have hun : un = (usesOf (askX op)).length := by have := huo.1; rw [intVals_length] at this; omega
  subst hun
  have HS1 := hid (HA1.out.on hb1)
  have HQ1 : Hid (AskS w op uv (.slice none 0 0) (.slice none 0 0) w1) := ⟨owns_base huo (by simp), (fun g h1 h2 => by cases h2), (fun g h1 h2 => by cases h2)⟩
  obtain ⟨ua, uc, rfl⟩ := own_form huo
  clear huo hb1 HUS HA1 f0
  go_wp2_with fail
  have HC := hid (contains_calls _ _ 0 w1 HQ1.out.ints)
  rw [ask_A, HFA.out] at HC
  refine HC.out.mono ?_
  rintro e w' ⟨rfl, rfl⟩
  clear HC
  go_wp2_with fail
  refine (mark_yes (c := 114) HS1.out.rdr HA.out).mono ?_
  rintro e w2 ⟨rfl, hr, hk⟩
  have hs := HS1.out.go hr hk
  have hq := HQ1.out.go HS1.out.rdr hk
  obtain ⟨⟨_, _, g2, g3, _⟩, gz⟩ := hs.facts
  have gz2 := gz 2
  obtain ⟨w3, hX⟩ : ∃ X, X = w2.setCell ⟨bx, 2, none⟩ (.int .i64 qa) := ⟨_, rfl⟩
  have HX := hid hX
  have HS3 : Hid (HasS W b L l1 reg tv w bx ⟨op, typ, qa, 0, 0, [], []⟩ (.slice none 0 0) (.slice none 0 0) w3) := by show HasS _ _ _ _ _ _ _ _ _ _ _ _; rw [hX]; exact hs.set (hs.box.setA qa)
  have HQ3 : Hid (AskS w op (.slice ua (usesOf (askX op)).length uc) (.slice none 0 0) (.slice none 0 0) w3) := by show AskS _ _ _ _ _ _; rw [hX]; exact hq.set hs.box _
  have HF0 : Hid (w3.cell? ⟨bx, 0, none⟩ = some (.int .u8 op)) := HS3.out.facts.1.1
  have f0 := HF0.out
  clear hr hk hs hq gz hX HS1 HQ1
  rw [HX.out] at f0
  go_wp2_with fail
  rw [← HX.out]
  clear f0 g2 g3 gz2 HX
  have HC := hid (contains_calls _ _ 1 w3 HQ3.out.ints)
  rw [ask_B, HFB.out] at HC
  refine HC.out.mono ?_
  rintro e w' ⟨rfl, rfl⟩
  clear HC
  have f0 := HF0.out
  go_wp2_with fail
  clear f0
  refine (number_yes HS3.out.rdr HN.out).mono ?_
  rintro e w4 ⟨rfl, hr, hk⟩
  have hs := HS3.out.go hr hk
  have hq := HQ3.out.go HS3.out.rdr hk
  have g4 := hs.facts.1.2.2.2.2.1
  have gz4 := hs.facts.2 4
  obtain ⟨w5, hX⟩ : ∃ X, X = w4.setCell ⟨bx, 4, none⟩ (.int .i64 qn) := ⟨_, rfl⟩
  have HX := hid hX
  have HSM : Hid (HasS W b L l3 reg tv w bx ⟨op, typ, qa, 0, qn, [], []⟩ (.slice none 0 0) (.slice none 0 0) w5) := by show HasS _ _ _ _ _ _ _ _ _ _ _ _; rw [hX]; exact hs.set (hs.box.setN qn)
  have HQM : Hid (AskS w op (.slice ua (usesOf (askX op)).length uc) (.slice none 0 0) (.slice none 0 0) w5) := by show AskS _ _ _ _ _ _; rw [hX]; exact hq.set hs.box _
  have HL3 := hid hr.fw.1
  clear hr hk hs hq hX HS3 HQ3 HF0
  go_wp2_with fail
  rw [← HX.out]
  clear g4 gz4 HX
  go_loopg [] l3.length (fun gk wr => ∃ (k : Nat) (xs : List Int) (va : Value), k + gk = l3.length ∧ xs.length = k ∧ marksO 114 l3 = (marksO 114 (l3.drop k)).map (xs ++ ·) ∧ HasS W b L (l3.drop k) reg tv w bx ⟨op, typ, qa, 0, qn, xs, []⟩ va (.slice none 0 0) wr ∧ AskS w op (.slice ua (usesOf (askX op)).length uc) va (.slice none 0 0) wr)
  case atStart => exact ⟨0, [], _, by omega, rfl, by simp, HSM.out, HQM.out⟩
  case round =>
    obtain ⟨k, xs, va, hk, hxk, hm, hs, hq⟩ := hrel
    clear HSM HQM
    obtain ⟨pa, pc, hpa0⟩ := own_form hs.box.owa
    have hpa : va = .slice pa xs.length pc := by simpa using hpa0
    clear hpa0
    subst hpa
    have HK := hid hk
    have HXK := hid hxk
    obtain ⟨la, lc, wa, wc, c0, c1, c2, c3, hfz, _, _, hb, _, hwn⟩ := hs.rdr.facts
    have f0 : wr.cell? ⟨bx, 0, none⟩ = some (.int .u8 op) := hs.facts.1.1
    have hop := HOP.out
    clear c0 c2 c3 hfz hk hxk
    cases hd : l3.drop k with
    | nil =>
      rw [hd] at hm c1 hs
      have HQQ := hid (HY.out xs (by rw [hm]; simp [marksO]))
      have HS1 := hid hs
      have HQ1 := hid hq
      clear hd hs hq hm
      go_wp2_with fail
      have HC := hid (contains_calls _ _ 2 wr HQ1.out.ints)
      rw [ask_R, HFR.out] at HC
      refine HC.out.mono ?_
      rintro e w' ⟨rfl, rfl⟩
      clear HC
      go_wp2
      go_end0
      exact HQQ.out _ _ ⟨rfl, _, _, HS1.out⟩
    | cons x l =>
      have hlt : k < l3.length := by
        have := congrArg List.length hd
        rw [List.length_drop] at this
        simp at this
        omega
      have HLT := hid hlt
      have h0 : (0 : Int) < ((x :: l).length : Int) := by simp only [List.length_cons]; omega
      clear hlt
      have HDK : Hid (l3.drop (k + 1) = l) := by
        show List.drop _ _ = _
        have := List.drop_drop (i := 1) (j := k) (l := l3)
        rw [hd] at this
        simpa [Nat.add_comm] using this.symm
      rw [hd] at hm c1 hs hwn
      clear hd
      have HS1 := hid hs
      have HQ1 := hid hq
      clear hs hq
      by_cases hq1 : (mkN x 114).2 = 0
      rotate_left
      · have HQQ := hid (HNN.out (by rw [hm]; simp [marksO, hq1]))
        have HMK := hid (show markC 114 (x :: l) = none by rw [markC_cons, if_neg hq1])
        clear hm hq1
        generalize hn1 : (x :: l).length = n1 at *
        clear hn1
        go_wp2_with fail
        have HC := hid (contains_calls _ _ 2 wr HQ1.out.ints)
        rw [ask_R, HFR.out] at HC
        refine HC.out.mono ?_
        rintro e w' ⟨rfl, rfl⟩
        clear HC
        go_upto_region 9 with fail
        clear c1 f0 h0 hwn
        have HD := hid HS1.out.draw
        have HV0 : Hid (wr.drew.cell? ⟨bx, 5, none⟩ = some (.slice pa xs.length pc)) := HD.out.facts.1.2.2.2.2.2.1
        have HC := hid (mark_no (c := 114) HD.out.rdr HMK.out)
        rw [show (((114 : UInt8).toNat : Nat) : Int) = 114 from rfl] at HC
        unfold Out at HC
        refine wp_region_Z (S := (fun w' => w'.cell? ⟨bx, 5, none⟩ = some (.slice pa xs.length pc))) (Z := [11]) (by kernel_rfl) ?_ (fun hHeld => ?_)
        · (try dsimp only)
          exact HV0.out
        refine zP 0 rfl ?_
        refine zP 1 rfl ?_
        refine zP 2 rfl ?_
        refine zP 3 rfl ?_
        refine zT 4 rfl ?_
        refine zP 5 rfl ?_
        refine zC 6 rfl (fun K hK => ?_)
        go_simp
        (go_at_call 132)
        refine HC.out.mono ?_
        rintro e w9 ⟨rfl, hk⟩
        have HK9 := hid (HD.out.kept.trans (hk.mono (F := [b, bx]) (by simp)))
        clear hk
        exact ⟨rfl, HQQ.out _ _ ⟨rfl, HK9.out⟩⟩
      have HMK := hid (show markC 114 (x :: l) = some ((mkN x 114).1, l) by rw [markC_cons, if_pos hq1])
      have HM2 : Hid (marksO 114 l3 = (marksO 114 l).map ((xs ++ [(mkN x 114).1]) ++ ·)) := by show _ = _; rw [hm]; simp [marksO, hq1, Function.comp_def]
      clear hm hq1
      generalize (mkN x 114).1 = q at *
      generalize hn1 : (x :: l).length = n1 at *
      clear hn1
      go_wp2_with fail
      have HC := hid (contains_calls _ _ 2 wr HQ1.out.ints)
      rw [ask_R, HFR.out] at HC
      refine HC.out.mono ?_
      rintro e w' ⟨rfl, rfl⟩
      clear HC
      go_upto_region 9 with fail
      clear c1 f0 h0 hwn
      have HD := hid HS1.out.draw
      have HV0 : Hid (wr.drew.cell? ⟨bx, 5, none⟩ = some (.slice pa xs.length pc)) := HD.out.facts.1.2.2.2.2.2.1
      have HE := hid (HQ1.out.on ((Below.refl _ wr).drew))
      have HC := hid (mark_yes (c := 114) HD.out.rdr HMK.out)
      rw [show (((114 : UInt8).toNat : Nat) : Int) = 114 from rfl] at HC
      unfold Goes at HC
      refine wp_region_noPanic ?_
      refine wp_region_Z (S := (fun w' => w'.cell? ⟨bx, 5, none⟩ = some (.slice pa xs.length pc))) (Z := [11]) (by kernel_rfl) ?_ (fun hHeld => ?_)
      · (try dsimp only)
        exact HV0.out
      refine zP 0 rfl ?_
      refine zP 1 rfl ?_
      refine zP 2 rfl ?_
      refine zP 3 rfl ?_
      refine zT 4 rfl ?_
      refine zP 5 rfl ?_
      refine zC 6 rfl (fun K hK => ?_)
      go_simp
      (go_at_call 132; (with_reducible refine HC.out.mono ?_); rintro e w1 ⟨rfl, hr1, hk1⟩; have HS1a := hid (HD.out.go hr1 hk1); have HS2 := hid (HS1a.out.on (alloc_below w1 (.cells #[.int .i64 q] 3))); have HQ2 := hid ((HE.out.go HD.out.rdr hk1).on (alloc_below w1 (.cells #[.int .i64 q] 3))); have HV1 : Hid (w1.cell? ⟨bx, 5, none⟩ = some (.slice pa xs.length pc)) := HS1a.out.facts.1.2.2.2.2.2.1; have HV2 : Hid ((w1.alloc (.cells #[.int .i64 q] 3)).cell? ⟨bx, 5, none⟩ = some (.slice pa xs.length pc)) := HS2.out.facts.1.2.2.2.2.2.1; clear hr1 hk1 HC HS1a)
      refine hK.out _ _ ?_ (fun hHeld => ?_)
      · (try dsimp only)
        exact HV1.out
      clear hK K
      refine zC 7 rfl (fun K hK => ?_)
      go_simp
      refine hK.out _ _ ?_ (fun hHeld => ?_)
      · (try dsimp only)
        exact HV2.out
      clear hK K
      refine zC 8 rfl (fun K hK => ?_)
      rw [if_pos (by rfl)]
      have hcc : (w1.alloc (.cells #[.int .i64 q] 3)).cell? ⟨w1.heap.size, 0, none⟩ = some (.int .i64 q) := cell_new _ _ _ _ rfl
      have hsz : w.heap.size ≤ (w1.alloc (.cells #[.int .i64 q] 3)).heap.size := HS2.out.kept.size
      refine wp_append_int1 (.tmp 66) (.tmp 69) rfl w.heap.size (.slice pa xs.length pc) rfl _ _ HS2.out.box.owa (by have := HXK.out; have := HLT.out; have := HL3.out; simp; omega) w1.heap.size q rfl hcc hsz ?_
      intro v5 w5 h5 hg5 hn5
      obtain ⟨g1, g2⟩ := HS2.out.growA h5 hg5 hn5
      have hq5 := HQ2.out.growA hg5 hn5 g1
      obtain ⟨p5, c5, h50⟩ := own_form h5
      have h55 : v5 = .slice p5 (xs.length + 1) c5 := by simpa using h50
      clear h50
      subst h55
      have HS5 := hid g2
      have HQ5 := hid hq5
      have HB5 := hid g1
      have HV5 : Hid (w5.cell? ⟨bx, 5, none⟩ = some (.slice pa xs.length pc)) := cells_of g1 5 _ rfl
      clear h5 hg5 hn5 g1 g2 hq5 hcc hsz
      refine hK.out _ _ ?_ (fun hHeld => ?_)
      · (try dsimp only)
        exact HV5.out
      clear hK K
      refine zP 9 rfl ?_
      refine zP 10 rfl ?_
      refine zL 11 rfl (fun K hK => ?_)
      have zz := (ShTB.cells_heap HB5.out).2 5
      have yy := HV5.out
      go_simp
      refine hK.out _ _ ?_
      clear hK K
      refine wpAnyZ_done (by kernel_rfl) ?_ _
      refine NoPanic.normal ?_
      go_wp2
      go_roundg (gk - 1)
      case measure => have := HK.out; have := HLT.out; omega
      case rel => exact ⟨k + 1, xs ++ [q], _, by have := HK.out; have := HLT.out; omega, by have := HXK.out; simp; omega, by rw [HDK.out]; exact HM2.out, by rw [HDK.out]; exact HS5.out, HQ5.out⟩
set_option maxRecDepth 100000 in
set_option maxHeartbeats 8000000 in
theorem has_args10 {bx : Nat} {op typ : Int} (h : HasS W b L ws reg tv w bx (ix0 op typ) (.slice none 0 0) (.slice none 0 0) w) (htab : ShA.Tab W) (h0 : 0 ≤ op) (h22 : op ≤ 22) (fA : hasAB op = true) (fB : twoB op = false) {qa : Int} {l1 : Ln} (hA : markC 114 ws = some (qa, l1)) {qn : Int} {l3 : Ln} (hN : numC op l1 = some (qn, l3)) (fR : argsB op = true) (ho : (op == 22) = false) {r : List Int} (hR : marksO 114 l3 = some r) :
    Calls Tryz.prog 169 #[.pointer (some ⟨b, 0, none⟩), .pointer (some ⟨bx, 0, none⟩)] w (HasO W b L [] reg tv bx ⟨op, typ, qa, 0, qn, r, []⟩ w) := by
  exact has_args10W h htab h0 h22 fA fB hA hN fR ho (fun r2 h2 => by cases hR.symm.trans h2; exact fun _ _ h => h) (fun h2 => by cases hR.symm.trans h2)
set_option maxRecDepth 100000 in
set_option maxHeartbeats 8000000 in
theorem has_args10_no {bx : Nat} {op typ : Int} (h : HasS W b L ws reg tv w bx (ix0 op typ) (.slice none 0 0) (.slice none 0 0) w) (htab : ShA.Tab W) (h0 : 0 ≤ op) (h22 : op ≤ 22) (fA : hasAB op = true) (fB : twoB op = false) {qa : Int} {l1 : Ln} (hA : markC 114 ws = some (qa, l1)) {qn : Int} {l3 : Ln} (hN : numC op l1 = some (qn, l3)) (fR : argsB op = true) (ho : (op == 22) = false) (hR : marksO 114 l3 = none) :
    Calls Tryz.prog 169 #[.pointer (some ⟨b, 0, none⟩), .pointer (some ⟨bx, 0, none⟩)] w (Out2 b bx w) := by
  exact has_args10W h htab h0 h22 fA fB hA hN fR ho (fun r2 h2 => by cases hR.symm.trans h2) (fun _ _ _ h => h)
set_option maxRecDepth 100000 in
set_option maxHeartbeats 8000000 in
theorem has_none11 {bx : Nat} {op typ : Int} (h : HasS W b L ws reg tv w bx (ix0 op typ) (.slice none 0 0) (.slice none 0 0) w) (htab : ShA.Tab W) (h0 : 0 ≤ op) (h22 : op ≤ 22) (fA : hasAB op = true) (fB : twoB op = true) {qa : Int} {l1 : Ln} (hA : markC 114 ws = some (qa, l1)) {qb : Int} {l2 : Ln} (hB : markC 114 l1 = some (qb, l2)) {qn : Int} {l3 : Ln} (hN : numC op l2 = some (qn, l3)) (fR : argsB op = false) :
    Calls Tryz.prog 169 #[.pointer (some ⟨b, 0, none⟩), .pointer (some ⟨bx, 0, none⟩)] w (HasO W b L l3 reg tv bx ⟨op, typ, qa, qb, qn, [], []⟩ w) := by
  have HFA := hid fA
  clear fA
  have HFB := hid fB
  clear fB
  have HA := hid hA
  clear hA
  have HB := hid hB
  clear hB
  have HN := hid hN
  clear hN
  have HFR := hid fR
  clear fR
  have hA1 := h.on (alloc_below w (.cells #[.int .i64 2] 3))
  have HUS := hid (ShU.uses_calls (askX op) (.slice (some ⟨w.heap.size, 0, none⟩) 1 1) (.slice none 0 0) (w.alloc (.cells #[.int .i64 2] 3)) h0 (by show op ≤ 255; omega) (htab.on (h.rdr.be.trans ((alloc_below w _).mono h.rdr.be.size))) (ints_one (cell_new _ _ _ _ rfl) (size_new _ _ _ rfl)) (by show 1 ≤ 1000; omega) ⟨_, _, _, rfl⟩)
  rw [show ixV (askX op) (.slice (some ⟨w.heap.size, 0, none⟩) 1 1) (.slice none 0 0) = .agg #[.int .u8 op, .int .i64 0, .int .i64 0, .int .i64 1, .int .i64 0, .slice (some ⟨w.heap.size, 0, none⟩) 1 1, .slice none 0 0] from rfl] at HUS
  unfold OwnI at HUS
  have HA1 := hid hA1
  have f0 : w.cell? ⟨bx, 0, none⟩ = some (.int .u8 op) := h.facts.1.1
  have hbx := h.lt
  clear h hA1 htab h0 h22
  go_enter Tryz.func169, Tryz.ntmps169
  go_wp2_with fail
  refine HUS.out.mono ?_
  rintro e w1 ⟨uv, un, rfl, huo, hb1⟩
  have hun : un = (usesOf (askX op)).length := by have := huo.1; rw [intVals_length] at this; omega
  subst hun
  have HS1 := hid (HA1.out.on hb1)
  have HQ1 : Hid (AskS w op uv (.slice none 0 0) (.slice none 0 0) w1) := ⟨owns_base huo (by simp), (fun g h1 h2 => by cases h2), (fun g h1 h2 => by cases h2)⟩
  obtain ⟨ua, uc, rfl⟩ := own_form huo
  clear huo hb1 HUS HA1 f0
  go_wp2_with fail
  have HC := hid (contains_calls _ _ 0 w1 HQ1.out.ints)
  rw [ask_A, HFA.out] at HC
  refine HC.out.mono ?_
  rintro e w' ⟨rfl, rfl⟩
  clear HC
  go_wp2_with fail
  refine (mark_yes (c := 114) HS1.out.rdr HA.out).mono ?_
  rintro e w2 ⟨rfl, hr, hk⟩
  have hs := HS1.out.go hr hk
  have hq := HQ1.out.go HS1.out.rdr hk
  obtain ⟨⟨_, _, g2, g3, _⟩, gz⟩ := hs.facts
  have gz2 := gz 2
  obtain ⟨w3, hX⟩ : ∃ X, X = w2.setCell ⟨bx, 2, none⟩ (.int .i64 qa) := ⟨_, rfl⟩
  have HX := hid hX
  have HS3 : Hid (HasS W b L l1 reg tv w bx ⟨op, typ, qa, 0, 0, [], []⟩ (.slice none 0 0) (.slice none 0 0) w3) := by show HasS _ _ _ _ _ _ _ _ _ _ _ _; rw [hX]; exact hs.set (hs.box.setA qa)
  have HQ3 : Hid (AskS w op (.slice ua (usesOf (askX op)).length uc) (.slice none 0 0) (.slice none 0 0) w3) := by show AskS _ _ _ _ _ _; rw [hX]; exact hq.set hs.box _
  have HF0 : Hid (w3.cell? ⟨bx, 0, none⟩ = some (.int .u8 op)) := HS3.out.facts.1.1
  have f0 := HF0.out
  clear hr hk hs hq gz hX HS1 HQ1
  rw [HX.out] at f0
  go_wp2_with fail
  rw [← HX.out]
  clear f0 g2 g3 gz2 HX
  have HC := hid (contains_calls _ _ 1 w3 HQ3.out.ints)
  rw [ask_B, HFB.out] at HC
  refine HC.out.mono ?_
  rintro e w' ⟨rfl, rfl⟩
  clear HC
  go_wp2_with fail
  clear HF0
  refine (mark_yes (c := 114) HS3.out.rdr HB.out).mono ?_
  rintro e w4 ⟨rfl, hr, hk⟩
  have hs := HS3.out.go hr hk
  have hq := HQ3.out.go HS3.out.rdr hk
  obtain ⟨⟨_, _, g2, g3, _⟩, gz⟩ := hs.facts
  have gz3 := gz 3
  obtain ⟨w5, hX⟩ : ∃ X, X = w4.setCell ⟨bx, 3, none⟩ (.int .i64 qb) := ⟨_, rfl⟩
  have HX := hid hX
  have HS5 : Hid (HasS W b L l2 reg tv w bx ⟨op, typ, qa, qb, 0, [], []⟩ (.slice none 0 0) (.slice none 0 0) w5) := by show HasS _ _ _ _ _ _ _ _ _ _ _ _; rw [hX]; exact hs.set (hs.box.setB qb)
  have HQ5 : Hid (AskS w op (.slice ua (usesOf (askX op)).length uc) (.slice none 0 0) (.slice none 0 0) w5) := by show AskS _ _ _ _ _ _; rw [hX]; exact hq.set hs.box _
  have HF0 : Hid (w5.cell? ⟨bx, 0, none⟩ = some (.int .u8 op)) := HS5.out.facts.1.1
  have f0 := HF0.out
  clear hr hk hs hq gz hX HS3 HQ3
  rw [HX.out] at f0
  go_wp2_with fail
  rw [← HX.out]
  clear f0 g2 g3 gz3 HX
  refine (number_yes HS5.out.rdr HN.out).mono ?_
  rintro e w6 ⟨rfl, hr, hk⟩
  have hs := HS5.out.go hr hk
  have hq := HQ5.out.go HS5.out.rdr hk
  have g4 := hs.facts.1.2.2.2.2.1
  have gz4 := hs.facts.2 4
  obtain ⟨w7, hX⟩ : ∃ X, X = w6.setCell ⟨bx, 4, none⟩ (.int .i64 qn) := ⟨_, rfl⟩
  have HX := hid hX
  have HSM : Hid (HasS W b L l3 reg tv w bx ⟨op, typ, qa, qb, qn, [], []⟩ (.slice none 0 0) (.slice none 0 0) w7) := by show HasS _ _ _ _ _ _ _ _ _ _ _ _; rw [hX]; exact hs.set (hs.box.setN qn)
  have HQM : Hid (AskS w op (.slice ua (usesOf (askX op)).length uc) (.slice none 0 0) (.slice none 0 0) w7) := by show AskS _ _ _ _ _ _; rw [hX]; exact hq.set hs.box _
  have HL3 := hid hr.fw.1
  clear hr hk hs hq hX HS5 HQ5 HF0
  go_wp2_with fail
  rw [← HX.out]
  clear g4 gz4 HX
  go_loopg [] 0 (fun gk wr => wr = w7)
  case atStart => rfl
  case round =>
    subst hrel
    go_wp2_with fail
    have HC := hid (contains_calls _ _ 2 _ HQM.out.ints)
    rw [ask_R, HFR.out] at HC
    refine HC.out.mono ?_
    rintro e w' ⟨rfl, rfl⟩
    clear HC
    go_wp2
    go_end0
    exact ⟨rfl, _, _, HSM.out⟩
end Go.Proofs.YtbebficgcemkoaaGreatDoor.RcJ
