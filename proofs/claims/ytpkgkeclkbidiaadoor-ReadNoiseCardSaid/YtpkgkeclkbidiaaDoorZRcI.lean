/- Walk over the reader's has. -/
import Derived.Test.YtpkgkeclkbidiaaDoorZRcTToRcH
import Derived.Test.YtpkgkeclkbidiaaDoorZRgZToRgY
import Derived.BigGuardPart
namespace Go.Proofs.YtpkgkeclkbidiaaDoor.RcI
open Go.RowKit Go.Lib TyM TyP ShM ShP ShB IntO SetP LxM LxJ LxY RwO RdM RdN RdV RdB RdP Fresh Aft RgZ RcP RcA RcB RcC RcD RcT RcN RcU RcH

variable {W : World} {b : Nat} {L : List Ln} {ws : Ln} {reg : Int} {tv : Value} {w : World}

/-- what has leaves -/
def HasO (W : World) (b : Nat) (L : List Ln) (ws : Ln) (reg : Int) (tv : Value) (bx : Nat) (y : Ix) (w : World) (e : Ending) (w' : World) : Prop :=
  e = .returned (.tuple #[]) ∧ ∃ va vf, HasS W b L ws reg tv w bx y va vf w'
def Out2 (b bx : Nat) (w : World) (e : Ending) (w' : World) : Prop := e = .panicked CH ∧ Kept [b, bx] w w'
set_option maxRecDepth 100000 in
set_option maxHeartbeats 8000000 in
theorem has_noA {bx : Nat} {op typ : Int} (h : HasS W b L ws reg tv w bx (ix0 op typ) (.slice none 0 0) (.slice none 0 0) w) (htab : ShA.Tab W) (h0 : 0 ≤ op) (h22 : op ≤ 22) (fA : hasAB op = true) (hno : markC 114 ws = none) :
    Calls Tryd.prog 92 #[.pointer (some ⟨b, 0, none⟩), .pointer (some ⟨bx, 0, none⟩)] w (Out2 b bx w) := by
  have HFA := hid fA
  clear fA
  have HNO := hid hno
  clear hno
  have hA1 := h.on (alloc_below w (.cells #[.int .i64 2] 3))
  have HUS := hid (ShU.uses_calls (askX op) (.slice (some ⟨w.heap.size, 0, none⟩) 1 1) (.slice none 0 0) (w.alloc (.cells #[.int .i64 2] 3)) h0 (by show op ≤ 255; omega) (htab.on (h.rdr.be.trans ((alloc_below w _).mono h.rdr.be.size))) (ints_one (cell_new _ _ _ _ rfl) (size_new _ _ _ rfl)) (by show 1 ≤ 1000; omega) ⟨_, _, _, rfl⟩)
  rw [show ixV (askX op) (.slice (some ⟨w.heap.size, 0, none⟩) 1 1) (.slice none 0 0) = .agg #[.int .u8 op, .int .i64 0, .int .i64 0, .int .i64 1, .int .i64 0, .slice (some ⟨w.heap.size, 0, none⟩) 1 1, .slice none 0 0] from rfl] at HUS
  unfold OwnI at HUS
  have HA1 := hid hA1
  have f0 : w.cell? ⟨bx, 0, none⟩ = some (.int .u8 op) := h.facts.1.1
  have hbx := h.lt
  clear h hA1 htab h0 h22
  go_enter Tryd.func92, Tryd.ntmps92
  go_wp2_with fail
  refine HUS.out.mono ?_
  rintro e w1 ⟨uv, un, rfl, huo, hb1⟩
  have hun : un = (usesOf (askX op)).length := by have := huo.1; rw [intVals_length] at this; omega
  subst hun
  have HS1 := hid (HA1.out.on hb1)
  have HQ1 : Hid (AskS w op uv (.slice none 0 0) (.slice none 0 0) w1) := ⟨owns_base huo (by simp), (fun g h1 h2 => by cases h2), (fun g h1 h2 => by cases h2)⟩
  obtain ⟨ua, uc, rfl⟩ := own_form huo
  clear huo hb1 HUS HA1 f0
  go_wp2_with fail
  have HC := hid (contains_calls _ _ 0 w1 HQ1.out.ints)
  rw [ask_A, HFA.out] at HC
  refine HC.out.mono ?_
  rintro e w' ⟨rfl, rfl⟩
  clear HC
  go_wp2_with fail
  refine (mark_no (c := 114) HS1.out.rdr HNO.out).mono ?_
  rintro e w9 ⟨rfl, hk⟩
  have HK9 := hid (HS1.out.kept.trans (hk.mono (F := [b, bx]) (by simp)))
  clear hk
  go_wp2
  exact ⟨rfl, rfl, HK9.out⟩
set_option maxRecDepth 100000 in
set_option maxHeartbeats 8000000 in
theorem has_noB {bx : Nat} {op typ : Int} (h : HasS W b L ws reg tv w bx (ix0 op typ) (.slice none 0 0) (.slice none 0 0) w) (htab : ShA.Tab W) (h0 : 0 ≤ op) (h22 : op ≤ 22) (fA : hasAB op = true) (fB : twoB op = true) {qa : Int} {l1 : Ln} (hA : markC 114 ws = some (qa, l1)) (hno : markC 114 l1 = none) :
    Calls Tryd.prog 92 #[.pointer (some ⟨b, 0, none⟩), .pointer (some ⟨bx, 0, none⟩)] w (Out2 b bx w) := by
  have HFA := hid fA
  clear fA
  have HFB := hid fB
  clear fB
  have HA := hid hA
  clear hA
  have HNO := hid hno
  clear hno
  have hA1 := h.on (alloc_below w (.cells #[.int .i64 2] 3))
  have HUS := hid (ShU.uses_calls (askX op) (.slice (some ⟨w.heap.size, 0, none⟩) 1 1) (.slice none 0 0) (w.alloc (.cells #[.int .i64 2] 3)) h0 (by show op ≤ 255; omega) (htab.on (h.rdr.be.trans ((alloc_below w _).mono h.rdr.be.size))) (ints_one (cell_new _ _ _ _ rfl) (size_new _ _ _ rfl)) (by show 1 ≤ 1000; omega) ⟨_, _, _, rfl⟩)
  rw [show ixV (askX op) (.slice (some ⟨w.heap.size, 0, none⟩) 1 1) (.slice none 0 0) = .agg #[.int .u8 op, .int .i64 0, .int .i64 0, .int .i64 1, .int .i64 0, .slice (some ⟨w.heap.size, 0, none⟩) 1 1, .slice none 0 0] from rfl] at HUS
  unfold OwnI at HUS
  have HA1 := hid hA1
  have f0 : w.cell? ⟨bx, 0, none⟩ = some (.int .u8 op) := h.facts.1.1
  have hbx := h.lt
  clear h hA1 htab h0 h22
  go_enter Tryd.func92, Tryd.ntmps92
  go_wp2_with fail
  refine HUS.out.mono ?_
  rintro e w1 ⟨uv, un, rfl, huo, hb1⟩
  have hun : un = (usesOf (askX op)).length := by have := huo.1; rw [intVals_length] at this; omega
  subst hun
  have HS1 := hid (HA1.out.on hb1)
  have HQ1 : Hid (AskS w op uv (.slice none 0 0) (.slice none 0 0) w1) := ⟨owns_base huo (by simp), (fun g h1 h2 => by cases h2), (fun g h1 h2 => by cases h2)⟩
  obtain ⟨ua, uc, rfl⟩ := own_form huo
  clear huo hb1 HUS HA1 f0
  go_wp2_with fail
  have HC := hid (contains_calls _ _ 0 w1 HQ1.out.ints)
  rw [ask_A, HFA.out] at HC
  refine HC.out.mono ?_
  rintro e w' ⟨rfl, rfl⟩
  clear HC
  go_wp2_with fail
  refine (mark_yes (c := 114) HS1.out.rdr HA.out).mono ?_
  rintro e w2 ⟨rfl, hr, hk⟩
  have hs := HS1.out.go hr hk
  have hq := HQ1.out.go HS1.out.rdr hk
  obtain ⟨⟨_, _, g2, g3, _⟩, gz⟩ := hs.facts
  have gz2 := gz 2
  obtain ⟨w3, hX⟩ : ∃ X, X = w2.setCell ⟨bx, 2, none⟩ (.int .i64 qa) := ⟨_, rfl⟩
  have HX := hid hX
  have HS3 : Hid (HasS W b L l1 reg tv w bx ⟨op, typ, qa, 0, 0, [], []⟩ (.slice none 0 0) (.slice none 0 0) w3) := by show HasS _ _ _ _ _ _ _ _ _ _ _ _; rw [hX]; exact hs.set (hs.box.setA qa)
  have HQ3 : Hid (AskS w op (.slice ua (usesOf (askX op)).length uc) (.slice none 0 0) (.slice none 0 0) w3) := by show AskS _ _ _ _ _ _; rw [hX]; exact hq.set hs.box _
  have HF0 : Hid (w3.cell? ⟨bx, 0, none⟩ = some (.int .u8 op)) := HS3.out.facts.1.1
  have f0 := HF0.out
  clear hr hk hs hq gz hX HS1 HQ1
  rw [HX.out] at f0
  go_wp2_with fail
  rw [← HX.out]
  clear f0 g2 g3 gz2 HX
  have HC := hid (contains_calls _ _ 1 w3 HQ3.out.ints)
  rw [ask_B, HFB.out] at HC
  refine HC.out.mono ?_
  rintro e w' ⟨rfl, rfl⟩
  clear HC
  go_wp2_with fail
  refine (mark_no (c := 114) HS3.out.rdr HNO.out).mono ?_
  rintro e w9 ⟨rfl, hk⟩
  have HK9 := hid (HS3.out.kept.trans (hk.mono (F := [b, bx]) (by simp)))
  clear hk
  go_wp2
  exact ⟨rfl, rfl, HK9.out⟩
set_option maxRecDepth 100000 in
set_option maxHeartbeats 8000000 in
theorem has_noN00 {bx : Nat} {op typ : Int} (h : HasS W b L ws reg tv w bx (ix0 op typ) (.slice none 0 0) (.slice none 0 0) w) (htab : ShA.Tab W) (h0 : 0 ≤ op) (h22 : op ≤ 22) (fA : hasAB op = false) (fB : twoB op = false) (hno : numC op ws = none) :
    Calls Tryd.prog 92 #[.pointer (some ⟨b, 0, none⟩), .pointer (some ⟨bx, 0, none⟩)] w (Out2 b bx w) := by
  have HFA := hid fA
  clear fA
  have HFB := hid fB
  clear fB
  have HNO := hid hno
  clear hno
  have hA1 := h.on (alloc_below w (.cells #[.int .i64 2] 3))
  have HUS := hid (ShU.uses_calls (askX op) (.slice (some ⟨w.heap.size, 0, none⟩) 1 1) (.slice none 0 0) (w.alloc (.cells #[.int .i64 2] 3)) h0 (by show op ≤ 255; omega) (htab.on (h.rdr.be.trans ((alloc_below w _).mono h.rdr.be.size))) (ints_one (cell_new _ _ _ _ rfl) (size_new _ _ _ rfl)) (by show 1 ≤ 1000; omega) ⟨_, _, _, rfl⟩)
  rw [show ixV (askX op) (.slice (some ⟨w.heap.size, 0, none⟩) 1 1) (.slice none 0 0) = .agg #[.int .u8 op, .int .i64 0, .int .i64 0, .int .i64 1, .int .i64 0, .slice (some ⟨w.heap.size, 0, none⟩) 1 1, .slice none 0 0] from rfl] at HUS
  unfold OwnI at HUS
  have HA1 := hid hA1
  have f0 : w.cell? ⟨bx, 0, none⟩ = some (.int .u8 op) := h.facts.1.1
  have hbx := h.lt
  clear h hA1 htab h0 h22
  go_enter Tryd.func92, Tryd.ntmps92
  go_wp2_with fail
  refine HUS.out.mono ?_
  rintro e w1 ⟨uv, un, rfl, huo, hb1⟩
  have hun : un = (usesOf (askX op)).length := by have := huo.1; rw [intVals_length] at this; omega
  subst hun
  have HS1 := hid (HA1.out.on hb1)
  have HQ1 : Hid (AskS w op uv (.slice none 0 0) (.slice none 0 0) w1) := ⟨owns_base huo (by simp), (fun g h1 h2 => by cases h2), (fun g h1 h2 => by cases h2)⟩
  obtain ⟨ua, uc, rfl⟩ := own_form huo
  clear huo hb1 HUS HA1 f0
  go_wp2_with fail
  have HC := hid (contains_calls _ _ 0 w1 HQ1.out.ints)
  rw [ask_A, HFA.out] at HC
  refine HC.out.mono ?_
  rintro e w' ⟨rfl, rfl⟩
  clear HC
  have HF0 : Hid (w1.cell? ⟨bx, 0, none⟩ = some (.int .u8 op)) := HS1.out.facts.1.1
  go_wp2_with fail
  have HC := hid (contains_calls _ _ 1 w1 HQ1.out.ints)
  rw [ask_B, HFB.out] at HC
  refine HC.out.mono ?_
  rintro e w' ⟨rfl, rfl⟩
  clear HC
  have f0 := HF0.out
  go_wp2_with fail
  clear f0
  refine (number_no HS1.out.rdr HNO.out).mono ?_
  rintro e w9 ⟨rfl, hk⟩
  have HK9 := hid (HS1.out.kept.trans (hk.mono (F := [b, bx]) (by simp)))
  clear hk
  go_wp2
  exact ⟨rfl, rfl, HK9.out⟩
set_option maxRecDepth 100000 in
set_option maxHeartbeats 8000000 in
theorem has_noN10 {bx : Nat} {op typ : Int} (h : HasS W b L ws reg tv w bx (ix0 op typ) (.slice none 0 0) (.slice none 0 0) w) (htab : ShA.Tab W) (h0 : 0 ≤ op) (h22 : op ≤ 22) (fA : hasAB op = true) (fB : twoB op = false) {qa : Int} {l1 : Ln} (hA : markC 114 ws = some (qa, l1)) (hno : numC op l1 = none) :
    Calls Tryd.prog 92 #[.pointer (some ⟨b, 0, none⟩), .pointer (some ⟨bx, 0, none⟩)] w (Out2 b bx w) := by
  have HFA := hid fA
  clear fA
  have HFB := hid fB
  clear fB
  have HA := hid hA
  clear hA
  have HNO := hid hno
  clear hno
  have hA1 := h.on (alloc_below w (.cells #[.int .i64 2] 3))
  have HUS := hid (ShU.uses_calls (askX op) (.slice (some ⟨w.heap.size, 0, none⟩) 1 1) (.slice none 0 0) (w.alloc (.cells #[.int .i64 2] 3)) h0 (by show op ≤ 255; omega) (htab.on (h.rdr.be.trans ((alloc_below w _).mono h.rdr.be.size))) (ints_one (cell_new _ _ _ _ rfl) (size_new _ _ _ rfl)) (by show 1 ≤ 1000; omega) ⟨_, _, _, rfl⟩)
  rw [show ixV (askX op) (.slice (some ⟨w.heap.size, 0, none⟩) 1 1) (.slice none 0 0) = .agg #[.int .u8 op, .int .i64 0, .int .i64 0, .int .i64 1, .int .i64 0, .slice (some ⟨w.heap.size, 0, none⟩) 1 1, .slice none 0 0] from rfl] at HUS
  unfold OwnI at HUS
  have HA1 := hid hA1
  have f0 : w.cell? ⟨bx, 0, none⟩ = some (.int .u8 op) := h.facts.1.1
  have hbx := h.lt
  clear h hA1 htab h0 h22
  go_enter Tryd.func92, Tryd.ntmps92
  go_wp2_with fail
  refine HUS.out.mono ?_
  rintro e w1 ⟨uv, un, rfl, huo, hb1⟩
  have hun : un = (usesOf (askX op)).length := by have := huo.1; rw [intVals_length] at this; omega
  subst hun
  have HS1 := hid (HA1.out.on hb1)
  have HQ1 : Hid (AskS w op uv (.slice none 0 0) (.slice none 0 0) w1) := ⟨owns_base huo (by simp), (fun g h1 h2 => by cases h2), (fun g h1 h2 => by cases h2)⟩
  obtain ⟨ua, uc, rfl⟩ := own_form huo
  clear huo hb1 HUS HA1 f0
  go_wp2_with fail
  have HC := hid (contains_calls _ _ 0 w1 HQ1.out.ints)
  rw [ask_A, HFA.out] at HC
  refine HC.out.mono ?_
  rintro e w' ⟨rfl, rfl⟩
  clear HC
  go_wp2_with fail
  refine (mark_yes (c := 114) HS1.out.rdr HA.out).mono ?_
  rintro e w2 ⟨rfl, hr, hk⟩
  have hs := HS1.out.go hr hk
  have hq := HQ1.out.go HS1.out.rdr hk
  obtain ⟨⟨_, _, g2, g3, _⟩, gz⟩ := hs.facts
  have gz2 := gz 2
  obtain ⟨w3, hX⟩ : ∃ X, X = w2.setCell ⟨bx, 2, none⟩ (.int .i64 qa) := ⟨_, rfl⟩
  have HX := hid hX
  have HS3 : Hid (HasS W b L l1 reg tv w bx ⟨op, typ, qa, 0, 0, [], []⟩ (.slice none 0 0) (.slice none 0 0) w3) := by show HasS _ _ _ _ _ _ _ _ _ _ _ _; rw [hX]; exact hs.set (hs.box.setA qa)
  have HQ3 : Hid (AskS w op (.slice ua (usesOf (askX op)).length uc) (.slice none 0 0) (.slice none 0 0) w3) := by show AskS _ _ _ _ _ _; rw [hX]; exact hq.set hs.box _
  have HF0 : Hid (w3.cell? ⟨bx, 0, none⟩ = some (.int .u8 op)) := HS3.out.facts.1.1
  have f0 := HF0.out
  clear hr hk hs hq gz hX HS1 HQ1
  rw [HX.out] at f0
  go_wp2_with fail
  rw [← HX.out]
  clear f0 g2 g3 gz2 HX
  have HC := hid (contains_calls _ _ 1 w3 HQ3.out.ints)
  rw [ask_B, HFB.out] at HC
  refine HC.out.mono ?_
  rintro e w' ⟨rfl, rfl⟩
  clear HC
  have f0 := HF0.out
  go_wp2_with fail
  clear f0
  refine (number_no HS3.out.rdr HNO.out).mono ?_
  rintro e w9 ⟨rfl, hk⟩
  have HK9 := hid (HS3.out.kept.trans (hk.mono (F := [b, bx]) (by simp)))
  clear hk
  go_wp2
  exact ⟨rfl, rfl, HK9.out⟩
set_option maxRecDepth 100000 in
set_option maxHeartbeats 8000000 in
theorem has_noN11 {bx : Nat} {op typ : Int} (h : HasS W b L ws reg tv w bx (ix0 op typ) (.slice none 0 0) (.slice none 0 0) w) (htab : ShA.Tab W) (h0 : 0 ≤ op) (h22 : op ≤ 22) (fA : hasAB op = true) (fB : twoB op = true) {qa : Int} {l1 : Ln} (hA : markC 114 ws = some (qa, l1)) {qb : Int} {l2 : Ln} (hB : markC 114 l1 = some (qb, l2)) (hno : numC op l2 = none) :
    Calls Tryd.prog 92 #[.pointer (some ⟨b, 0, none⟩), .pointer (some ⟨bx, 0, none⟩)] w (Out2 b bx w) := by
  have HFA := hid fA
  clear fA
  have HFB := hid fB
  clear fB
  have HA := hid hA
  clear hA
  have HB := hid hB
  clear hB
  have HNO := hid hno
  clear hno
  have hA1 := h.on (alloc_below w (.cells #[.int .i64 2] 3))
  have HUS := hid (ShU.uses_calls (askX op) (.slice (some ⟨w.heap.size, 0, none⟩) 1 1) (.slice none 0 0) (w.alloc (.cells #[.int .i64 2] 3)) h0 (by show op ≤ 255; omega) (htab.on (h.rdr.be.trans ((alloc_below w _).mono h.rdr.be.size))) (ints_one (cell_new _ _ _ _ rfl) (size_new _ _ _ rfl)) (by show 1 ≤ 1000; omega) ⟨_, _, _, rfl⟩)
  rw [show ixV (askX op) (.slice (some ⟨w.heap.size, 0, none⟩) 1 1) (.slice none 0 0) = .agg #[.int .u8 op, .int .i64 0, .int .i64 0, .int .i64 1, .int .i64 0, .slice (some ⟨w.heap.size, 0, none⟩) 1 1, .slice none 0 0] from rfl] at HUS
  unfold OwnI at HUS
  have HA1 := hid hA1
  have f0 : w.cell? ⟨bx, 0, none⟩ = some (.int .u8 op) := h.facts.1.1
  have hbx := h.lt
  clear h hA1 htab h0 h22
  go_enter Tryd.func92, Tryd.ntmps92
  go_wp2_with fail
  refine HUS.out.mono ?_
  rintro e w1 ⟨uv, un, rfl, huo, hb1⟩
  have hun : un = (usesOf (askX op)).length := by have := huo.1; rw [intVals_length] at this; omega
  subst hun
  have HS1 := hid (HA1.out.on hb1)
  have HQ1 : Hid (AskS w op uv (.slice none 0 0) (.slice none 0 0) w1) := ⟨owns_base huo (by simp), (fun g h1 h2 => by cases h2), (fun g h1 h2 => by cases h2)⟩
  obtain ⟨ua, uc, rfl⟩ := own_form huo
  clear huo hb1 HUS HA1 f0
  go_wp2_with fail
  have HC := hid (contains_calls _ _ 0 w1 HQ1.out.ints)
  rw [ask_A, HFA.out] at HC
  refine HC.out.mono ?_
  rintro e w' ⟨rfl, rfl⟩
  clear HC
  go_wp2_with fail
  refine (mark_yes (c := 114) HS1.out.rdr HA.out).mono ?_
  rintro e w2 ⟨rfl, hr, hk⟩
  have hs := HS1.out.go hr hk
  have hq := HQ1.out.go HS1.out.rdr hk
  obtain ⟨⟨_, _, g2, g3, _⟩, gz⟩ := hs.facts
  have gz2 := gz 2
  obtain ⟨w3, hX⟩ : ∃ X, X = w2.setCell ⟨bx, 2, none⟩ (.int .i64 qa) := ⟨_, rfl⟩
  have HX := hid hX
  have HS3 : Hid (HasS W b L l1 reg tv w bx ⟨op, typ, qa, 0, 0, [], []⟩ (.slice none 0 0) (.slice none 0 0) w3) := by show HasS _ _ _ _ _ _ _ _ _ _ _ _; rw [hX]; exact hs.set (hs.box.setA qa)
  have HQ3 : Hid (AskS w op (.slice ua (usesOf (askX op)).length uc) (.slice none 0 0) (.slice none 0 0) w3) := by show AskS _ _ _ _ _ _; rw [hX]; exact hq.set hs.box _
  have HF0 : Hid (w3.cell? ⟨bx, 0, none⟩ = some (.int .u8 op)) := HS3.out.facts.1.1
  have f0 := HF0.out
  clear hr hk hs hq gz hX HS1 HQ1
  rw [HX.out] at f0
  go_wp2_with fail
  rw [← HX.out]
  clear f0 g2 g3 gz2 HX
  have HC := hid (contains_calls _ _ 1 w3 HQ3.out.ints)
  rw [ask_B, HFB.out] at HC
  refine HC.out.mono ?_
  rintro e w' ⟨rfl, rfl⟩
  clear HC
  go_wp2_with fail
  clear HF0
  refine (mark_yes (c := 114) HS3.out.rdr HB.out).mono ?_
  rintro e w4 ⟨rfl, hr, hk⟩
  have hs := HS3.out.go hr hk
  have hq := HQ3.out.go HS3.out.rdr hk
  obtain ⟨⟨_, _, g2, g3, _⟩, gz⟩ := hs.facts
  have gz3 := gz 3
  obtain ⟨w5, hX⟩ : ∃ X, X = w4.setCell ⟨bx, 3, none⟩ (.int .i64 qb) := ⟨_, rfl⟩
  have HX := hid hX
  have HS5 : Hid (HasS W b L l2 reg tv w bx ⟨op, typ, qa, qb, 0, [], []⟩ (.slice none 0 0) (.slice none 0 0) w5) := by show HasS _ _ _ _ _ _ _ _ _ _ _ _; rw [hX]; exact hs.set (hs.box.setB qb)
  have HQ5 : Hid (AskS w op (.slice ua (usesOf (askX op)).length uc) (.slice none 0 0) (.slice none 0 0) w5) := by show AskS _ _ _ _ _ _; rw [hX]; exact hq.set hs.box _
  have HF0 : Hid (w5.cell? ⟨bx, 0, none⟩ = some (.int .u8 op)) := HS5.out.facts.1.1
  have f0 := HF0.out
  clear hr hk hs hq gz hX HS3 HQ3
  rw [HX.out] at f0
  go_wp2_with fail
  rw [← HX.out]
  clear f0 g2 g3 gz3 HX
  refine (number_no HS5.out.rdr HNO.out).mono ?_
  rintro e w9 ⟨rfl, hk⟩
  have HK9 := hid (HS5.out.kept.trans (hk.mono (F := [b, bx]) (by simp)))
  clear hk
  go_wp2
  exact ⟨rfl, rfl, HK9.out⟩
end Go.Proofs.YtpkgkeclkbidiaaDoor.RcI
