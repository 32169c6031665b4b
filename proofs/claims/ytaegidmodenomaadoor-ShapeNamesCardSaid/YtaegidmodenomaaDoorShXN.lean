/- Walk over fescuelaw06.ShapeNames. -/
import Derived.Test.YtaegidmodenomaaDoorShXO
namespace Go.Proofs.YtaegidmodenomaaDoor.ShXN
open Go.RowKit Go.Lib SetP IntO TyM TyP TyB TyC ShM ShP ShA ShB ShC ShE ShQ ShF ShG ShH ShI ShJ ShK ShL ShX ShTB ShXO Aft

theorem o0 : (chkP (chQ ⟨0, 0, 0, 0, 0, [], []⟩ 1 0) == 60) = true := by decide +kernel
theorem o1 : (chkP (chQ ⟨23, 0, 0, 0, 0, [], []⟩ 1 0) == 60) = true := by decide +kernel
theorem o2 : (chkP (chQ ⟨4, 0, 2, 0, 0, [], []⟩ 1 0) == 60) = true := by decide +kernel
theorem o3 : (chkP (chQ ⟨1, 0, 1, 0, 0, [], []⟩ 1 0) == 60) = true := by decide +kernel
theorem o4 : (chkP (chQ ⟨18, 0, 0, 0, 1, [], []⟩ 1 0) == 60) = true := by decide +kernel
theorem o5 : (chkP (chQ ⟨14, 0, 0, 0, 8, [], []⟩ 1 0) == 60) = true := by decide +kernel
theorem o6 : (chkP (chQ ⟨22, 0, 0, 0, 0, [], []⟩ 1 0) == 60) = true := by decide +kernel
theorem o7 : (chkP (chQ ⟨22, 0, 0, 0, 0, [0], []⟩ 1 0) == 60) = true := by decide +kernel
theorem o8 : (chkP (chQ ⟨21, 1, 0, 0, 0, [], []⟩ 1 0) == 60) = true := by decide +kernel
theorem o9 : (chkP (chQ ⟨4, 2, 0, 0, 0, [], []⟩ 1 0) == 60) = true := by decide +kernel
theorem o10 : (chkP (chQ ⟨18, 0, 0, 0, 0, [0, 0, 0, 0, 0], []⟩ 1 0) == 60) = true := by decide +kernel
abbrev P17 : Px := ⟨[⟨0, 0, 0, []⟩, ⟨0, 0, 0, []⟩, ⟨0, 0, 0, []⟩, ⟨0, 0, 0, []⟩, ⟨0, 0, 0, []⟩, ⟨0, 0, 0, []⟩, ⟨0, 0, 0, []⟩, ⟨0, 0, 0, []⟩, ⟨0, 0, 0, []⟩, ⟨0, 0, 0, []⟩, ⟨0, 0, 0, []⟩, ⟨0, 0, 0, []⟩, ⟨0, 0, 0, []⟩, ⟨0, 0, 0, []⟩, ⟨0, 0, 0, []⟩, ⟨0, 0, 0, []⟩, ⟨0, 0, 0, []⟩], []⟩
theorem f1 : chkP (chQ ix1 0 0) = 60 := by decide +kernel
theorem f2 : chkP (chQ ix1 1 1) = 60 := by decide +kernel
theorem f3 : chkP chN = 60 := by decide +kernel
theorem f4 : chkP ⟨[], []⟩ = 60 := by decide +kernel
theorem f5 : chkP P17 = 4 := by decide +kernel
theorem g1 : findP chapP 1 = 2 := by decide +kernel
theorem g2 : placeE chapP 0 2 = 2 ∧ placeB chapP 0 2 = 0 ∧ placeI chapP 0 2 = 0 := by decide +kernel
theorem g3 : regE chapP 0 1 1 = 2 ∧ regN chapP 0 1 1 = 0 := by decide +kernel
theorem s1 : Small (chQ ix1 0 0) := ⟨by decide, by decide, by decide, by decide, by decide, by decide⟩
theorem s2 : Small (chQ ix1 1 1) := ⟨by decide, by decide, by decide, by decide, by decide, by decide⟩
theorem s3 : Small chN := ⟨by decide, by decide, by decide, by decide, by decide, by decide⟩
theorem s4 : Small ⟨[], []⟩ := ⟨by decide, by decide, by decide, by decide, by decide, by decide⟩
theorem s5 : Small P17 := ⟨by decide, by decide, by decide, by decide, by decide, by decide⟩
theorem k1 : POk (chQ ix1 0 0) := by unfold POk; decide
theorem k2 : POk (chQ ix1 1 1) := by unfold POk; decide
theorem k3 : POk chN := by unfold POk; decide
theorem k4 : POk ⟨[], []⟩ := by unfold POk; decide
theorem k5 : POk P17 := by unfold POk; decide
theorem ints_row (w : World) (l : List Int) (n : Nat) (hn : n = l.length) (hl : l.length ≤ 100000) (cs : Array Value) (hc : cs.toList = intVals l) : IntsAt (w.alloc (.cells cs 3)) (.slice (some ⟨w.heap.size, 0, none⟩) n n) l := by
  subst hn
  have h := ownsRow_lit w (intVals l) 3 l.length (by rw [intVals_length]) (by unfold maxLen; omega)
  obtain rfl : cs = (intVals l).toArray := by rw [← hc]
  exact intsAt_of_owns h (by omega)
theorem types17 {W : World} {b : Nat} (h : W.heap[b]? = some (.cells #[.int .u8 0, .int .i64 0, .int .i64 0, .slice none 0 0, .int .u8 0, .int .i64 0, .int .i64 0, .slice none 0 0, .int .u8 0, .int .i64 0, .int .i64 0, .slice none 0 0, .int .u8 0, .int .i64 0, .int .i64 0, .slice none 0 0, .int .u8 0, .int .i64 0, .int .i64 0, .slice none 0 0, .int .u8 0, .int .i64 0, .int .i64 0, .slice none 0 0, .int .u8 0, .int .i64 0, .int .i64 0, .slice none 0 0, .int .u8 0, .int .i64 0, .int .i64 0, .slice none 0 0, .int .u8 0, .int .i64 0, .int .i64 0, .slice none 0 0, .int .u8 0, .int .i64 0, .int .i64 0, .slice none 0 0, .int .u8 0, .int .i64 0, .int .i64 0, .slice none 0 0, .int .u8 0, .int .i64 0, .int .i64 0, .slice none 0 0, .int .u8 0, .int .i64 0, .int .i64 0, .slice none 0 0, .int .u8 0, .int .i64 0, .int .i64 0, .slice none 0 0, .int .u8 0, .int .i64 0, .int .i64 0, .slice none 0 0, .int .u8 0, .int .i64 0, .int .i64 0, .slice none 0 0, .int .u8 0, .int .i64 0, .int .i64 0, .slice none 0 0] 65 (0, 0))) : PrAt W (.agg #[.slice (some ⟨b, 0, none⟩) 17 17, .slice none 0 0]) P17 := by
  refine ⟨_, _, rfl, ?_, RowAt.none W⟩
  refine ⟨some ⟨b, 0, none⟩, 17, rfl, by decide, fun _ => ⟨b, 0, rfl, lt_of h, fun i hi => ?_⟩, (fun h => by cases h), by decide⟩
  have hi' : i = 0 ∨ i = 1 ∨ i = 2 ∨ i = 3 ∨ i = 4 ∨ i = 5 ∨ i = 6 ∨ i = 7 ∨ i = 8 ∨ i = 9 ∨ i = 10 ∨ i = 11 ∨ i = 12 ∨ i = 13 ∨ i = 14 ∨ i = 15 ∨ i = 16 := by
    have : i < 17 := hi
    omega
  rcases hi' with rfl | rfl | rfl | rfl | rfl | rfl | rfl | rfl | rfl | rfl | rfl | rfl | rfl | rfl | rfl | rfl | rfl

  · exact ⟨.slice none 0 0, cells_of h 0 _ rfl, cells_of h 1 _ rfl, cells_of h 2 _ rfl, cells_of h 3 _ rfl, ints_none W⟩
  · exact ⟨.slice none 0 0, cells_of h 4 _ rfl, cells_of h 5 _ rfl, cells_of h 6 _ rfl, cells_of h 7 _ rfl, ints_none W⟩
  · exact ⟨.slice none 0 0, cells_of h 8 _ rfl, cells_of h 9 _ rfl, cells_of h 10 _ rfl, cells_of h 11 _ rfl, ints_none W⟩
  · exact ⟨.slice none 0 0, cells_of h 12 _ rfl, cells_of h 13 _ rfl, cells_of h 14 _ rfl, cells_of h 15 _ rfl, ints_none W⟩
  · exact ⟨.slice none 0 0, cells_of h 16 _ rfl, cells_of h 17 _ rfl, cells_of h 18 _ rfl, cells_of h 19 _ rfl, ints_none W⟩
  · exact ⟨.slice none 0 0, cells_of h 20 _ rfl, cells_of h 21 _ rfl, cells_of h 22 _ rfl, cells_of h 23 _ rfl, ints_none W⟩
  · exact ⟨.slice none 0 0, cells_of h 24 _ rfl, cells_of h 25 _ rfl, cells_of h 26 _ rfl, cells_of h 27 _ rfl, ints_none W⟩
  · exact ⟨.slice none 0 0, cells_of h 28 _ rfl, cells_of h 29 _ rfl, cells_of h 30 _ rfl, cells_of h 31 _ rfl, ints_none W⟩
  · exact ⟨.slice none 0 0, cells_of h 32 _ rfl, cells_of h 33 _ rfl, cells_of h 34 _ rfl, cells_of h 35 _ rfl, ints_none W⟩
  · exact ⟨.slice none 0 0, cells_of h 36 _ rfl, cells_of h 37 _ rfl, cells_of h 38 _ rfl, cells_of h 39 _ rfl, ints_none W⟩
  · exact ⟨.slice none 0 0, cells_of h 40 _ rfl, cells_of h 41 _ rfl, cells_of h 42 _ rfl, cells_of h 43 _ rfl, ints_none W⟩
  · exact ⟨.slice none 0 0, cells_of h 44 _ rfl, cells_of h 45 _ rfl, cells_of h 46 _ rfl, cells_of h 47 _ rfl, ints_none W⟩
  · exact ⟨.slice none 0 0, cells_of h 48 _ rfl, cells_of h 49 _ rfl, cells_of h 50 _ rfl, cells_of h 51 _ rfl, ints_none W⟩
  · exact ⟨.slice none 0 0, cells_of h 52 _ rfl, cells_of h 53 _ rfl, cells_of h 54 _ rfl, cells_of h 55 _ rfl, ints_none W⟩
  · exact ⟨.slice none 0 0, cells_of h 56 _ rfl, cells_of h 57 _ rfl, cells_of h 58 _ rfl, cells_of h 59 _ rfl, ints_none W⟩
  · exact ⟨.slice none 0 0, cells_of h 60 _ rfl, cells_of h 61 _ rfl, cells_of h 62 _ rfl, cells_of h 63 _ rfl, ints_none W⟩
  · exact ⟨.slice none 0 0, cells_of h 64 _ rfl, cells_of h 65 _ rfl, cells_of h 66 _ rfl, cells_of h 67 _ rfl, ints_none W⟩

set_option maxRecDepth 100000 in
set_option maxHeartbeats 16000000 in
theorem walk (W : World) (ht : Tab W) : Calls Tryd.prog 3 #[] W fun e W' => e = .returned (.bool true) ∧ Below W.heap.size W W' := by
  have HODD := hid (fun x va vf wx (hb : Below W.heap.size W wx) ha hf h0 h1 hal hfl => odd_calls x va vf wx (ht.on hb) ha hf h0 h1 hal hfl)
  have HCH := hid chapter_calls
  have HCP := hid chap_calls
  have HAL := hid (fun wx (hb : Below W.heap.size W wx) => alive_calls wx (ht.on hb))
  have HRG := hid (fun v wx (h : PrAt wx v chapP) (hb : Below W.heap.size W wx) => regsP_calls chapP 1 v wx h (ht.on hb) chap_small chap_ok)
  have HPL := hid (fun v wx (h : PrAt wx v chapP) (hb : Below W.heap.size W wx) => place_calls chapP 0 2 v wx h (ht.on hb) chap_small chap_ok (by decide))
  have HRE := hid (fun v wx (h : PrAt wx v chapP) (hb : Below W.heap.size W wx) => reg_calls chapP 0 1 1 v wx h (ht.on hb) chap_small chap_ok)
  rw [g1, if_neg (by decide)] at HRG
  rw [g2.1, g2.2.1, g2.2.2] at HPL
  rw [g3.1, g3.2] at HRE
  have HC1 := hid (fun v wx (h : PrAt wx v (chQ ix1 0 0)) (hb : Below W.heap.size W wx) => ShI.check_calls _ v wx h (ht.on hb) s1 k1)
  have HC2 := hid (fun v wx (h : PrAt wx v (chQ ix1 1 1)) (hb : Below W.heap.size W wx) => ShI.check_calls _ v wx h (ht.on hb) s2 k2)
  have HC3 := hid (fun v wx (h : PrAt wx v chN) (hb : Below W.heap.size W wx) => ShI.check_calls _ v wx h (ht.on hb) s3 k3)
  have HC4 := hid (fun v wx (h : PrAt wx v ⟨[], []⟩) (hb : Below W.heap.size W wx) => ShI.check_calls _ v wx h (ht.on hb) s4 k4)
  have HC5 := hid (fun v wx (h : PrAt wx v P17) (hb : Below W.heap.size W wx) => ShI.check_calls _ v wx h (ht.on hb) s5 k5)
  rw [f1] at HC1
  rw [f2] at HC2
  rw [f3] at HC3
  rw [f4] at HC4
  rw [f5] at HC5
  have hmk5 : ∀ w : World, (Instr.makeSlice 23 (.int .i64 5) (.int .i64 5)).run Tryd.prog w = .ok (.slice (some ⟨w.heap.size, 0, none⟩) 5 5) (w.alloc (.cells #[.int .i64 0, .int .i64 0, .int .i64 0, .int .i64 0, .int .i64 0] 3)) := fun _ => by kernel_rfl
  have hmk17 : ∀ w : World, (Instr.makeSlice 26 (.int .i64 17) (.int .i64 17)).run Tryd.prog w = .ok (.slice (some ⟨w.heap.size, 0, none⟩) 17 17) (w.alloc (.cells #[.int .u8 0, .int .i64 0, .int .i64 0, .slice none 0 0, .int .u8 0, .int .i64 0, .int .i64 0, .slice none 0 0, .int .u8 0, .int .i64 0, .int .i64 0, .slice none 0 0, .int .u8 0, .int .i64 0, .int .i64 0, .slice none 0 0, .int .u8 0, .int .i64 0, .int .i64 0, .slice none 0 0, .int .u8 0, .int .i64 0, .int .i64 0, .slice none 0 0, .int .u8 0, .int .i64 0, .int .i64 0, .slice none 0 0, .int .u8 0, .int .i64 0, .int .i64 0, .slice none 0 0, .int .u8 0, .int .i64 0, .int .i64 0, .slice none 0 0, .int .u8 0, .int .i64 0, .int .i64 0, .slice none 0 0, .int .u8 0, .int .i64 0, .int .i64 0, .slice none 0 0, .int .u8 0, .int .i64 0, .int .i64 0, .slice none 0 0, .int .u8 0, .int .i64 0, .int .i64 0, .slice none 0 0, .int .u8 0, .int .i64 0, .int .i64 0, .slice none 0 0, .int .u8 0, .int .i64 0, .int .i64 0, .slice none 0 0, .int .u8 0, .int .i64 0, .int .i64 0, .slice none 0 0, .int .u8 0, .int .i64 0, .int .i64 0, .slice none 0 0] 65)) := fun _ => by kernel_rfl
  have hb := Below.refl W.heap.size W
  clear ht
  go_enter Tryd.func3, Tryd.ntmps3
  have HC := hid (HODD.out ⟨0, 0, 0, 0, 0, [], []⟩ (.slice none 0 0) (.slice none 0 0) W hb (ints_none _) (ints_none _) (by decide) (by decide) (by decide) (by decide))
  rw [o0] at HC
  go_wp2_with fail
  refine HC.out.mono ?_
  rintro e w0 ⟨rfl, hbz⟩
  have hb' := hb.trans (hbz.mono hb.size)
  clear hb hbz HC
  have hb := hb'
  clear hb'
  have HC := hid (HODD.out ⟨23, 0, 0, 0, 0, [], []⟩ (.slice none 0 0) (.slice none 0 0) w0 hb (ints_none _) (ints_none _) (by decide) (by decide) (by decide) (by decide))
  rw [o1] at HC
  go_wp2_with fail
  refine HC.out.mono ?_
  rintro e w1 ⟨rfl, hbz⟩
  have hb' := hb.trans (hbz.mono hb.size)
  clear hb hbz HC
  have hb := hb'
  clear hb'
  have HC := hid (HODD.out ⟨4, 0, 2, 0, 0, [], []⟩ (.slice none 0 0) (.slice none 0 0) w1 hb (ints_none _) (ints_none _) (by decide) (by decide) (by decide) (by decide))
  rw [o2] at HC
  go_wp2_with fail
  refine HC.out.mono ?_
  rintro e w2 ⟨rfl, hbz⟩
  have hb' := hb.trans (hbz.mono hb.size)
  clear hb hbz HC
  have hb := hb'
  clear hb'
  have HC := hid (HODD.out ⟨1, 0, 1, 0, 0, [], []⟩ (.slice none 0 0) (.slice none 0 0) w2 hb (ints_none _) (ints_none _) (by decide) (by decide) (by decide) (by decide))
  rw [o3] at HC
  go_wp2_with fail
  refine HC.out.mono ?_
  rintro e w3 ⟨rfl, hbz⟩
  have hb' := hb.trans (hbz.mono hb.size)
  clear hb hbz HC
  have hb := hb'
  clear hb'
  have HC := hid (HODD.out ⟨18, 0, 0, 0, 1, [], []⟩ (.slice none 0 0) (.slice none 0 0) w3 hb (ints_none _) (ints_none _) (by decide) (by decide) (by decide) (by decide))
  rw [o4] at HC
  go_wp2_with fail
  refine HC.out.mono ?_
  rintro e w4 ⟨rfl, hbz⟩
  have hb' := hb.trans (hbz.mono hb.size)
  clear hb hbz HC
  have hb := hb'
  clear hb'
  have HC := hid (HODD.out ⟨14, 0, 0, 0, 8, [], []⟩ (.slice none 0 0) (.slice none 0 0) w4 hb (ints_none _) (ints_none _) (by decide) (by decide) (by decide) (by decide))
  rw [o5] at HC
  go_wp2_with fail
  refine HC.out.mono ?_
  rintro e w5 ⟨rfl, hbz⟩
  have hb' := hb.trans (hbz.mono hb.size)
  clear hb hbz HC
  have hb := hb'
  clear hb'
  have HC := hid (HODD.out ⟨22, 0, 0, 0, 0, [], []⟩ (.slice none 0 0) (.slice none 0 0) w5 hb (ints_none _) (ints_none _) (by decide) (by decide) (by decide) (by decide))
  rw [o6] at HC
  go_wp2_with fail
  refine HC.out.mono ?_
  rintro e w6 ⟨rfl, hbz⟩
  have hb' := hb.trans (hbz.mono hb.size)
  clear hb hbz HC
  have hb := hb'
  clear hb'
  have hb0 := hb.alloc hb.size (.cells #[.int .i64 0] 3)
  have HC := hid (HODD.out ⟨22, 0, 0, 0, 0, [0], []⟩ (.slice (some ⟨w6.heap.size, 0, none⟩) 1 1) (.slice none 0 0) (w6.alloc (.cells #[.int .i64 0] 3)) hb0 (ints_row w6 [0] 1 rfl (by decide) _ rfl) (ints_none _) (by decide) (by decide) (by decide) (by decide))
  rw [o7] at HC
  clear hb
  have hb := hb0
  clear hb0
  go_wp2_with fail
  refine HC.out.mono ?_
  rintro e w7 ⟨rfl, hbz⟩
  have hb' := hb.trans (hbz.mono hb.size)
  clear hb hbz HC
  have hb := hb'
  clear hb'
  have HC := hid (HODD.out ⟨21, 1, 0, 0, 0, [], []⟩ (.slice none 0 0) (.slice none 0 0) w7 hb (ints_none _) (ints_none _) (by decide) (by decide) (by decide) (by decide))
  rw [o8] at HC
  go_wp2_with fail
  refine HC.out.mono ?_
  rintro e w8 ⟨rfl, hbz⟩
  have hb' := hb.trans (hbz.mono hb.size)
  clear hb hbz HC
  have hb := hb'
  clear hb'
  have HC := hid (HODD.out ⟨4, 2, 0, 0, 0, [], []⟩ (.slice none 0 0) (.slice none 0 0) w8 hb (ints_none _) (ints_none _) (by decide) (by decide) (by decide) (by decide))
  rw [o9] at HC
  go_wp2_with fail
  refine HC.out.mono ?_
  rintro e w9 ⟨rfl, hbz⟩
  have hb' := hb.trans (hbz.mono hb.size)
  clear hb hbz HC
  have hb := hb'
  clear hb'
  have hb0 := hb.alloc hb.size (.cells #[.int .i64 0, .int .i64 0, .int .i64 0, .int .i64 0, .int .i64 0] 3)
  have HC := hid (HODD.out ⟨18, 0, 0, 0, 0, [0, 0, 0, 0, 0], []⟩ (.slice (some ⟨w9.heap.size, 0, none⟩) 5 5) (.slice none 0 0) (w9.alloc (.cells #[.int .i64 0, .int .i64 0, .int .i64 0, .int .i64 0, .int .i64 0] 3)) hb0 (ints_row w9 [0, 0, 0, 0, 0] 5 rfl (by decide) _ rfl) (ints_none _) (by decide) (by decide) (by decide) (by decide))
  rw [o10] at HC
  clear hb
  have hb := hb0
  clear hb0
  go_wp2_with fail
  refine HC.out.mono ?_
  rintro e w10 ⟨rfl, hbz⟩
  have hb' := hb.trans (hbz.mono hb.size)
  clear hb hbz HC
  have hb := hb'
  clear hb'
  clear HODD
  -- the three
  go_wp2_with fail
  refine (HCH.out _).mono ?_
  rintro e c1 ⟨rfl, hc⟩
  have c1k1 := hid ((congrArg (fun wx : World => wx.heap[w10.heap.size + 1]?) hc).trans (ShX.h1 w10 chC))
  have c1k3 := hid ((congrArg (fun wx : World => wx.heap[w10.heap.size + 1 + 1 + 1]?) hc).trans (ShX.h3 w10 chC))
  have c1k5 := hid ((congrArg (fun wx : World => wx.heap[w10.heap.size + 1 + 1 + 1 + 1 + 1]?) hc).trans (ShX.h5 w10 chC))
  have c1k6 := hid ((congrArg (fun wx : World => wx.heap[w10.heap.size + 1 + 1 + 1 + 1 + 1 + 1]?) hc).trans (ShX.h6 w10 chC))
  have c1k7 := hid ((congrArg (fun wx : World => wx.heap[w10.heap.size + 1 + 1 + 1 + 1 + 1 + 1 + 1]?) hc).trans (ShX.h7 w10 chC))
  have c1s : Hid (c1.heap.size = w10.heap.size + 1 + 1 + 1 + 1 + 1 + 1 + 1 + 1) := by show _ = _; rw [hc, chW_size]
  have c1b : Hid (Below w10.heap.size w10 c1) := by show Below _ _ _; rw [hc]; exact chW_below _ _
  clear hc
  go_wp2_with fail
  refine (HCH.out _).mono ?_
  rintro e c2 ⟨rfl, hc⟩
  have c2k1 := hid ((congrArg (fun wx : World => wx.heap[c1.heap.size + 1]?) hc).trans (ShX.h1 c1 chC))
  have c2k3 := hid ((congrArg (fun wx : World => wx.heap[c1.heap.size + 1 + 1 + 1]?) hc).trans (ShX.h3 c1 chC))
  have c2k5 := hid ((congrArg (fun wx : World => wx.heap[c1.heap.size + 1 + 1 + 1 + 1 + 1]?) hc).trans (ShX.h5 c1 chC))
  have c2k6 := hid ((congrArg (fun wx : World => wx.heap[c1.heap.size + 1 + 1 + 1 + 1 + 1 + 1]?) hc).trans (ShX.h6 c1 chC))
  have c2k7 := hid ((congrArg (fun wx : World => wx.heap[c1.heap.size + 1 + 1 + 1 + 1 + 1 + 1 + 1]?) hc).trans (ShX.h7 c1 chC))
  have c2s : Hid (c2.heap.size = c1.heap.size + 1 + 1 + 1 + 1 + 1 + 1 + 1 + 1) := by show _ = _; rw [hc, chW_size]
  have c2b : Hid (Below c1.heap.size c1 c2) := by show Below _ _ _; rw [hc]; exact chW_below _ _
  clear hc
  go_wp2_with fail
  refine (HCH.out _).mono ?_
  rintro e c3 ⟨rfl, hc⟩
  have c3k1 := hid ((congrArg (fun wx : World => wx.heap[c2.heap.size + 1]?) hc).trans (ShX.h1 c2 chC))
  have c3k3 := hid ((congrArg (fun wx : World => wx.heap[c2.heap.size + 1 + 1 + 1]?) hc).trans (ShX.h3 c2 chC))
  have c3k5 := hid ((congrArg (fun wx : World => wx.heap[c2.heap.size + 1 + 1 + 1 + 1 + 1]?) hc).trans (ShX.h5 c2 chC))
  have c3k6 := hid ((congrArg (fun wx : World => wx.heap[c2.heap.size + 1 + 1 + 1 + 1 + 1 + 1]?) hc).trans (ShX.h6 c2 chC))
  have c3k7 := hid ((congrArg (fun wx : World => wx.heap[c2.heap.size + 1 + 1 + 1 + 1 + 1 + 1 + 1]?) hc).trans (ShX.h7 c2 chC))
  have c3s : Hid (c3.heap.size = c2.heap.size + 1 + 1 + 1 + 1 + 1 + 1 + 1 + 1) := by show _ = _; rw [hc, chW_size]
  have c3b : Hid (Below c2.heap.size c2 c3) := by show Below _ _ _; rw [hc]; exact chW_below _ _
  clear hc
  obtain ⟨W4, hW4⟩ : ∃ W4, W4 = ((c3.alloc (.cells #[.slice (some ⟨w10.heap.size + 1 + 1 + 1 + 1 + 1, 0, none⟩) 2 2, .slice (some ⟨w10.heap.size + 1 + 1 + 1 + 1 + 1 + 1 + 1, 0, none⟩) 1 1] 29)).alloc (.cells #[.slice (some ⟨c1.heap.size + 1 + 1 + 1 + 1 + 1, 0, none⟩) 2 2, .slice (some ⟨c1.heap.size + 1 + 1 + 1 + 1 + 1 + 1 + 1, 0, none⟩) 1 1] 29)).alloc (.cells #[.slice (some ⟨c2.heap.size + 1 + 1 + 1 + 1 + 1, 0, none⟩) 2 2, .slice (some ⟨c2.heap.size + 1 + 1 + 1 + 1 + 1 + 1 + 1, 0, none⟩) 1 1] 29) := ⟨_, rfl⟩
  have HW4 := hid hW4
  have kB1 := hid (show W4.heap[c3.heap.size]? = some (.cells #[.slice (some ⟨w10.heap.size + 1 + 1 + 1 + 1 + 1, 0, none⟩) 2 2, .slice (some ⟨w10.heap.size + 1 + 1 + 1 + 1 + 1 + 1 + 1, 0, none⟩) 1 1] 29 (0, 0)) by rw [hW4]; exact alloc_old (alloc_old (alloc_new _ _) _) _)
  have kB2 := hid (show W4.heap[c3.heap.size + 1]? = some (.cells #[.slice (some ⟨c1.heap.size + 1 + 1 + 1 + 1 + 1, 0, none⟩) 2 2, .slice (some ⟨c1.heap.size + 1 + 1 + 1 + 1 + 1 + 1 + 1, 0, none⟩) 1 1] 29 (0, 0)) by rw [hW4]; exact alloc_old (alloc_newn _ _ _ (by simp only [World.size_alloc])) _)
  have kB3 := hid (show W4.heap[c3.heap.size + 1 + 1]? = some (.cells #[.slice (some ⟨c2.heap.size + 1 + 1 + 1 + 1 + 1, 0, none⟩) 2 2, .slice (some ⟨c2.heap.size + 1 + 1 + 1 + 1 + 1 + 1 + 1, 0, none⟩) 1 1] 29 (0, 0)) by rw [hW4]; exact alloc_newn _ _ _ (by simp only [World.size_alloc]))
  have h34 : Below c3.heap.size c3 W4 := by rw [hW4]; exact ((alloc_below _ _).alloc (by simp) _).alloc (by simp only [World.size_alloc]; omega) _
  clear hW4
  have h24 : Below c2.heap.size c2 W4 := c3b.out.trans (h34.mono c3b.out.size)
  have h14 : Below c1.heap.size c1 W4 := c2b.out.trans (h24.mono c2b.out.size)
  have h04 : Below w10.heap.size w10 W4 := c1b.out.trans (h14.mono c1b.out.size)
  have hbW := hid (hb.trans (h04.mono hb.size))
  have hsz := hid hb.size
  have c1q1 := hid ((h14.block _ (lt_of c1k1.out)).trans c1k1.out)
  have c1q3 := hid ((h14.block _ (lt_of c1k3.out)).trans c1k3.out)
  have c1q5 := hid ((h14.block _ (lt_of c1k5.out)).trans c1k5.out)
  have c1q6 := hid ((h14.block _ (lt_of c1k6.out)).trans c1k6.out)
  have c1q7 := hid ((h14.block _ (lt_of c1k7.out)).trans c1k7.out)
  have c2q1 := hid ((h24.block _ (lt_of c2k1.out)).trans c2k1.out)
  have c2q3 := hid ((h24.block _ (lt_of c2k3.out)).trans c2k3.out)
  have c2q5 := hid ((h24.block _ (lt_of c2k5.out)).trans c2k5.out)
  have c2q6 := hid ((h24.block _ (lt_of c2k6.out)).trans c2k6.out)
  have c2q7 := hid ((h24.block _ (lt_of c2k7.out)).trans c2k7.out)
  have c3q1 := hid ((h34.block _ (lt_of c3k1.out)).trans c3k1.out)
  have c3q3 := hid ((h34.block _ (lt_of c3k3.out)).trans c3k3.out)
  have c3q5 := hid ((h34.block _ (lt_of c3k5.out)).trans c3k5.out)
  have c3q6 := hid ((h34.block _ (lt_of c3k6.out)).trans c3k6.out)
  have c3q7 := hid ((h34.block _ (lt_of c3k7.out)).trans c3k7.out)
  clear hb h34 h24 h14 h04 c1k1 c1k3 c1k5 c1k6 c1k7 c2k1 c2k3 c2k5 c2k6 c2k7 c3k1 c3k3 c3k5 c3k6 c3k7 c1b c2b c3b
  go_upto_region 3 with fail
  rw [← HW4.out]
  have u0 := cells_of kB1.out 1 _ rfl
  have z0 := (cells_heap c1q7.out).2 0
  have y0 := cells_of c1q7.out 0 _ rfl
  go_upto_region 4 with fail
  obtain ⟨W5, hW5⟩ : ∃ W5, W5 = W4.setCell ⟨w10.heap.size + 1 + 1 + 1 + 1 + 1 + 1 + 1, 0, none⟩ (.int .i64 0) := ⟨_, rfl⟩
  rw [← hW5]
  have K5 := hid (fun k (hk : k ≠ w10.heap.size + 1 + 1 + 1 + 1 + 1 + 1 + 1) => (show W5.heap[k]? = W4.heap[k]? by rw [hW5]; exact Below.heap_setCell _ _ _ k hk))
  have P5 : Hid (W5.heap[w10.heap.size + 1 + 1 + 1 + 1 + 1 + 1 + 1]? = some (.cells #[.int .i64 0, .slice (some ⟨w10.heap.size + 1 + 1 + 1 + 1 + 1 + 1, 0, none⟩) 2 2] 33 (0, 0))) := by
    show _ = _
    rw [hW5]
    exact (ShTB.set_heap' (i := 0) (.int .i64 0) c1q7.out).trans (by simp)
  have B5 : Hid (Below W.heap.size W W5) := by
    show Below _ _ _
    rw [hW5]
    exact hbW.out.setCell (p := ⟨w10.heap.size + 1 + 1 + 1 + 1 + 1 + 1 + 1, 0, none⟩) (by have := hsz.out; show W.heap.size ≤ w10.heap.size + 1 + 1 + 1 + 1 + 1 + 1 + 1; omega) _
  clear hW5 u0 z0 y0
  have u0 := cells_of ((K5.out (c3.heap.size + 1) (by have := c1s.out; have := c2s.out; have := c3s.out; omega)).trans kB2.out) 1 _ rfl
  have u1 := cells_of ((K5.out (c1.heap.size + 1 + 1 + 1 + 1 + 1 + 1 + 1) (by have := c1s.out; omega)).trans c2q7.out) 1 _ rfl
  have kq6 := (K5.out (c1.heap.size + 1 + 1 + 1 + 1 + 1 + 1) (by have := c1s.out; omega)).trans c2q6.out
  have z0 := (cells_heap kq6).2 8
  have y0 := cells_of kq6 8 _ rfl
  have KQ6 := hid kq6
  clear kq6
  go_upto_region 5 with fail
  obtain ⟨W6, hW6⟩ : ∃ W6, W6 = W5.setCell ⟨c1.heap.size + 1 + 1 + 1 + 1 + 1 + 1, 8, none⟩ (.int .i64 1) := ⟨_, rfl⟩
  rw [← hW6]
  have K6 := hid (fun k (hk : k ≠ w10.heap.size + 1 + 1 + 1 + 1 + 1 + 1 + 1) (hk2 : k ≠ c1.heap.size + 1 + 1 + 1 + 1 + 1 + 1) => (show W6.heap[k]? = W4.heap[k]? by rw [hW6]; exact (Below.heap_setCell _ _ _ k hk2).trans (K5.out k hk)))
  have P6 : Hid (W6.heap[w10.heap.size + 1 + 1 + 1 + 1 + 1 + 1 + 1]? = some (.cells #[.int .i64 0, .slice (some ⟨w10.heap.size + 1 + 1 + 1 + 1 + 1 + 1, 0, none⟩) 2 2] 33 (0, 0))) := by
    show _ = _
    rw [hW6]
    exact (Below.heap_setCell _ _ _ _ (by have := c1s.out; show w10.heap.size + 1 + 1 + 1 + 1 + 1 + 1 + 1 ≠ c1.heap.size + 1 + 1 + 1 + 1 + 1 + 1; omega)).trans P5.out
  have Q6 : Hid (W6.heap[c1.heap.size + 1 + 1 + 1 + 1 + 1 + 1]? = some (.cells #[.slice (some ⟨c1.heap.size + 1, 0, none⟩) 1 1, .int .u8 1, .int .i64 0, .int .i64 1, .int .i64 0, .slice (some ⟨c1.heap.size + 1 + 1 + 1, 0, none⟩) 1 1, .int .u8 3, .int .i64 1, .int .i64 1, .int .i64 0] 38 (0, 0))) := by
    show _ = _
    rw [hW6]
    exact (ShTB.set_heap' (i := 8) (.int .i64 1) KQ6.out).trans (by simp)
  have B6 : Hid (Below W.heap.size W W6) := by
    show Below _ _ _
    rw [hW6]
    exact B5.out.setCell (p := ⟨c1.heap.size + 1 + 1 + 1 + 1 + 1 + 1, 8, none⟩) (by have := hsz.out; have := c1s.out; show W.heap.size ≤ c1.heap.size + 1 + 1 + 1 + 1 + 1 + 1; omega) _
  clear hW6 u0 u1 z0 y0 KQ6 K5 P5 B5
  have u0 := cells_of ((K6.out (c3.heap.size + 1 + 1) (by have := c1s.out; have := c2s.out; have := c3s.out; omega) (by have := c1s.out; have := c2s.out; have := c3s.out; omega)).trans kB3.out) 1 _ rfl
  have kr7 := (K6.out (c2.heap.size + 1 + 1 + 1 + 1 + 1 + 1 + 1) (by have := c1s.out; have := c2s.out; omega) (by have := c1s.out; have := c2s.out; omega)).trans c3q7.out
  have z0 := (cells_heap kr7).2 1
  have y0 := cells_of kr7 1 _ rfl
  have KR7 := hid kr7
  clear kr7
  go_upto_region 6 with fail
  obtain ⟨W7, hW7⟩ : ∃ W7, W7 = W6.setCell ⟨c2.heap.size + 1 + 1 + 1 + 1 + 1 + 1 + 1, 1, none⟩ (.slice none 0 0) := ⟨_, rfl⟩
  rw [← hW7]
  have K7 := hid (fun k (hk : k ≠ w10.heap.size + 1 + 1 + 1 + 1 + 1 + 1 + 1) (hk2 : k ≠ c1.heap.size + 1 + 1 + 1 + 1 + 1 + 1) (hk3 : k ≠ c2.heap.size + 1 + 1 + 1 + 1 + 1 + 1 + 1) => (show W7.heap[k]? = W4.heap[k]? by rw [hW7]; exact (Below.heap_setCell _ _ _ k hk3).trans (K6.out k hk hk2)))
  have p7 : W7.heap[w10.heap.size + 1 + 1 + 1 + 1 + 1 + 1 + 1]? = some (.cells #[.int .i64 0, .slice (some ⟨w10.heap.size + 1 + 1 + 1 + 1 + 1 + 1, 0, none⟩) 2 2] 33 (0, 0)) := by
    rw [hW7]
    exact (Below.heap_setCell _ _ _ _ (by have := c1s.out; have := c2s.out; show w10.heap.size + 1 + 1 + 1 + 1 + 1 + 1 + 1 ≠ c2.heap.size + 1 + 1 + 1 + 1 + 1 + 1 + 1; omega)).trans P6.out
  have q6 : W7.heap[c1.heap.size + 1 + 1 + 1 + 1 + 1 + 1]? = some (.cells #[.slice (some ⟨c1.heap.size + 1, 0, none⟩) 1 1, .int .u8 1, .int .i64 0, .int .i64 1, .int .i64 0, .slice (some ⟨c1.heap.size + 1 + 1 + 1, 0, none⟩) 1 1, .int .u8 3, .int .i64 1, .int .i64 1, .int .i64 0] 38 (0, 0)) := by
    rw [hW7]
    exact (Below.heap_setCell _ _ _ _ (by have := c1s.out; have := c2s.out; show c1.heap.size + 1 + 1 + 1 + 1 + 1 + 1 ≠ c2.heap.size + 1 + 1 + 1 + 1 + 1 + 1 + 1; omega)).trans Q6.out
  have r7 : W7.heap[c2.heap.size + 1 + 1 + 1 + 1 + 1 + 1 + 1]? = some (.cells #[.int .i64 1, .slice none 0 0] 33 (0, 0)) := by
    rw [hW7]
    exact (ShTB.set_heap' (i := 1) (.slice none 0 0) KR7.out).trans (by simp)
  have b7 : Below W.heap.size W W7 := by
    rw [hW7]
    exact B6.out.setCell (p := ⟨c2.heap.size + 1 + 1 + 1 + 1 + 1 + 1 + 1, 1, none⟩) (by have := hsz.out; have := c1s.out; have := c2s.out; show W.heap.size ≤ c2.heap.size + 1 + 1 + 1 + 1 + 1 + 1 + 1; omega) _
  clear hW7 u0 z0 y0 KR7 K6 P6 Q6 B6
  have hs1 := c1s.out
  have hs2 := c2s.out
  have hs3 := c3s.out
  have HP := hid (prog_at (x := ix1) (va := .slice none 0 0) (vf := .slice none 0 0) (sig := 0) (tt := 0) ((K7.out (w10.heap.size + 1) (by omega) (by omega) (by omega)).trans c1q1.out) ((K7.out (w10.heap.size + 1 + 1 + 1) (by omega) (by omega) (by omega)).trans c1q3.out) ((K7.out (w10.heap.size + 1 + 1 + 1 + 1 + 1) (by omega) (by omega) (by omega)).trans c1q5.out) ((K7.out (w10.heap.size + 1 + 1 + 1 + 1 + 1 + 1) (by omega) (by omega) (by omega)).trans c1q6.out) p7 (ints_none _) (ints_none _))
  have HQ := hid (prog_at (x := ix1) (va := .slice none 0 0) (vf := .slice none 0 0) (sig := 1) (tt := 1) ((K7.out (c1.heap.size + 1) (by omega) (by omega) (by omega)).trans c2q1.out) ((K7.out (c1.heap.size + 1 + 1 + 1) (by omega) (by omega) (by omega)).trans c2q3.out) ((K7.out (c1.heap.size + 1 + 1 + 1 + 1 + 1) (by omega) (by omega) (by omega)).trans c2q5.out) q6 ((K7.out (c1.heap.size + 1 + 1 + 1 + 1 + 1 + 1 + 1) (by omega) (by omega) (by omega)).trans c2q7.out) (ints_none _) (ints_none _))
  have HR := hid (prog_none ((K7.out (c2.heap.size + 1 + 1 + 1 + 1 + 1) (by omega) (by omega) (by omega)).trans c3q5.out) r7)
  have m0 := later_cells ((K7.out c3.heap.size (by omega) (by omega) (by omega)).trans kB1.out) 0 _ rfl
  have m1 := later_cells ((K7.out c3.heap.size (by omega) (by omega) (by omega)).trans kB1.out) 1 _ rfl
  have m2 := later_cells ((K7.out (c3.heap.size + 1) (by omega) (by omega) (by omega)).trans kB2.out) 0 _ rfl
  have m3 := later_cells ((K7.out (c3.heap.size + 1) (by omega) (by omega) (by omega)).trans kB2.out) 1 _ rfl
  have m4 := later_cells ((K7.out (c3.heap.size + 1 + 1) (by omega) (by omega) (by omega)).trans kB3.out) 0 _ rfl
  have m5 := later_cells ((K7.out (c3.heap.size + 1 + 1) (by omega) (by omega) (by omega)).trans kB3.out) 1 _ rfl
  have HB := hid b7
  have a0 := Aft.refl W7
  clear p7 q6 r7 b7 hs1 hs2 hs3 K7 HCH HW4 kB1 kB2 kB3 hbW hsz c1q1 c1q3 c1q5 c1q6 c1q7 c2q1 c2q3 c2q5 c2q6 c2q7 c3q1 c3q3 c3q5 c3q6 c3q7 c1s c2s c3s
  simp only [List.getElem_toArray, List.getElem_cons_succ, List.getElem_cons_zero] at m0 m1 m2 m3 m4 m5
  go_wp2_with fail
  refine (HCP.out _).mono ?_
  rintro e d1 ⟨v1, rfl, hp, hbz⟩
  have a1 := a0.go hbz
  have HC := hid (HRG.out v1 d1 hp (HB.out.trans (a1.below.mono HB.out.size)))
  obtain ⟨_, _, rfl, _⟩ := hp
  clear hbz HRG a0
  go_wp2_with fail
  refine HC.out.mono ?_
  rintro e e1 ⟨rfl, hbz⟩
  have a2 := a1.go hbz
  clear hbz HC a1
  go_wp2_with fail
  refine (HCP.out _).mono ?_
  rintro e d3 ⟨v3, rfl, hp, hbz⟩
  have a3 := a2.go hbz
  have HC := hid (HPL.out v3 d3 hp (HB.out.trans (a3.below.mono HB.out.size)))
  obtain ⟨_, _, rfl, _⟩ := hp
  clear hbz HPL a2
  go_wp2_with fail
  refine HC.out.mono ?_
  rintro e e3 ⟨rfl, hbz⟩
  have a4 := a3.go hbz
  clear hbz HC a3
  go_wp2_with fail
  refine (HCP.out _).mono ?_
  rintro e d5 ⟨v5, rfl, hp, hbz⟩
  have a5 := a4.go hbz
  have HC := hid (HRE.out v5 d5 hp (HB.out.trans (a5.below.mono HB.out.size)))
  obtain ⟨_, _, rfl, _⟩ := hp
  clear hbz HRE a4
  go_wp2_with fail
  refine HC.out.mono ?_
  rintro e e5 ⟨rfl, hbz⟩
  have a6 := a5.go hbz
  clear hbz HC a5
  clear HCP
  have HC := hid (HAL.out e5 (HB.out.trans (a6.below.mono HB.out.size)))
  go_wp2_with fail
  refine HC.out.mono ?_
  rintro e e6 ⟨rfl, hbz⟩
  have a7 := a6.go hbz
  clear hbz HC a6 HAL
  have HC := hid (HC1.out _ e6 (HP.out.below a7.below) (HB.out.trans (a7.below.mono HB.out.size)))
  go_wp2_with fail
  refine HC.out.mono ?_
  rintro e e7 ⟨rfl, hbz⟩
  have a8 := a7.go hbz
  clear hbz HC a7 HC1 HP m0 m1
  have HC := hid (HC2.out _ e7 (HQ.out.below a8.below) (HB.out.trans (a8.below.mono HB.out.size)))
  go_wp2_with fail
  refine HC.out.mono ?_
  rintro e e8 ⟨rfl, hbz⟩
  have a9 := a8.go hbz
  clear hbz HC a8 HC2 HQ m2 m3
  have HC := hid (HC3.out _ e8 (HR.out.below a9.below) (HB.out.trans (a9.below.mono HB.out.size)))
  go_wp2_with fail
  refine HC.out.mono ?_
  rintro e e9 ⟨rfl, hbz⟩
  have a10 := a9.go hbz
  clear hbz HC a9 HC3 HR m4 m5
  have HC := hid (HC4.out (.agg #[.slice none 0 0, .slice none 0 0]) e9 ⟨_, _, rfl, ⟨none, 0, rfl, by simp, (fun h => by simp at h), (fun _ => rfl), by simp⟩, RowAt.none _⟩ (HB.out.trans (a10.below.mono HB.out.size)))
  go_wp2_with fail
  refine HC.out.mono ?_
  rintro e e10 ⟨rfl, hbz⟩
  have a11 := a10.go hbz
  clear hbz HC a10 HC4
  have a12 := a11.alloc (.cells #[.int .u8 0, .int .i64 0, .int .i64 0, .slice none 0 0, .int .u8 0, .int .i64 0, .int .i64 0, .slice none 0 0, .int .u8 0, .int .i64 0, .int .i64 0, .slice none 0 0, .int .u8 0, .int .i64 0, .int .i64 0, .slice none 0 0, .int .u8 0, .int .i64 0, .int .i64 0, .slice none 0 0, .int .u8 0, .int .i64 0, .int .i64 0, .slice none 0 0, .int .u8 0, .int .i64 0, .int .i64 0, .slice none 0 0, .int .u8 0, .int .i64 0, .int .i64 0, .slice none 0 0, .int .u8 0, .int .i64 0, .int .i64 0, .slice none 0 0, .int .u8 0, .int .i64 0, .int .i64 0, .slice none 0 0, .int .u8 0, .int .i64 0, .int .i64 0, .slice none 0 0, .int .u8 0, .int .i64 0, .int .i64 0, .slice none 0 0, .int .u8 0, .int .i64 0, .int .i64 0, .slice none 0 0, .int .u8 0, .int .i64 0, .int .i64 0, .slice none 0 0, .int .u8 0, .int .i64 0, .int .i64 0, .slice none 0 0, .int .u8 0, .int .i64 0, .int .i64 0, .slice none 0 0, .int .u8 0, .int .i64 0, .int .i64 0, .slice none 0 0] 65)
  have HC := hid (HC5.out _ _ (types17 (alloc_new e10 _)) (HB.out.trans (a12.below.mono HB.out.size)))
  clear HC5
  go_wp2_with fail
  refine HC.out.mono ?_
  rintro e e11 ⟨rfl, hbz⟩
  have a13 := a12.go hbz
  clear hbz HC
  go_wp2
  go_ret
  exact ⟨rfl, HB.out.trans (a13.below.mono HB.out.size)⟩
end Go.Proofs.YtaegidmodenomaaDoor.ShXN
