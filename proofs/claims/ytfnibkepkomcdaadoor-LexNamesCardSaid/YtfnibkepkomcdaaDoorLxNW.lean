/- Walk over fescuelaw05.LexNames. -/
import Derived.Test.YtfnibkepkomcdaaDoorLxPW
import Derived.Test.YtfnibkepkomcdaaDoorLxKW
namespace Go.Proofs.YtfnibkepkomcdaaDoor.LxNW
open Go.RowKit Go.Lib LxM LxP LxK LxJ LxS LxY LxO LxN LxT LxLA LxKW LxPW

/-- so many words -/
def rep : Nat → List UInt8
  | 0 => []
  | i + 1 => rep i ++ [97, 32]
theorem rep_len : ∀ i, (rep i).length = 2 * i
  | 0 => rfl
  | i + 1 => by rw [rep, List.length_append, rep_len i]; rfl
theorem rep64 : lnE (rep 64) = 0 ∧ lnT (rep 64) = [List.replicate 64 [97]] := by decide +kernel
theorem rep65 : lnE (rep 64 ++ [97]) = 4 := by decide +kernel
theorem zero_kind : kindB (0 : UInt8) = 0 := by decide
theorem zeros_jn : jnE [[List.replicate 16384 (0 : UInt8)]] = 4 := by
  refine jnE_many ?_ (.inr ?_)
  · have : mayB (List.replicate 16384 (0 : UInt8)) = true := by
      refine mayB_iff.2 ⟨?_, fun c hc => ?_⟩
      · intro e
        have := congrArg List.length e
        rw [List.length_replicate] at this
        simp at this
      · rw [(List.mem_replicate.1 hc).2]; exact zero_kind
    simp only [List.any_cons, List.any_nil, Bool.or_false, oddL, this]
    rfl
  · rw [szT_one, szL_one, List.length_replicate]; decide
theorem jn_abc : jnE [[[97], [98]], [[99]]] = 0 ∧ jnT [[[97], [98]], [[99]]] = [97, 32, 98, 10, 99, 10] := by decide +kernel
theorem jn_none : jnE [[]] = 2 := by decide +kernel
theorem jn_hash : jnE [[[97, 35]]] = 2 := by decide +kernel

/-- a string of zero bytes, made -/
theorem made_str (n : Nat) (hn : n ≤ 100000) : ∃ C : Array Value, (∀ wx : World, (Instr.makeSlice 26 (.int .i64 (n : Int)) (.int .i64 (n : Int))).run Tryd.prog wx = .ok (.slice (some ⟨wx.heap.size, 0, none⟩) n n) (wx.alloc (.cells C 5))) ∧
    ∀ wx : World, (convert 26 9 (.slice (some ⟨wx.heap.size, 0, none⟩) n n)).run Tryd.prog (wx.alloc (.cells C 5)) = .ok (.string (mk (List.replicate n 0))) (wx.alloc (.cells C 5)) := by
  obtain ⟨i0, hi, hz0, hz1, hz2⟩ := info_parts (show (Tryd.prog.info? 5).map (fun i => (i.zero, i.size, i.bytes)) = some (some (.int .u8 0), 1, 1) by kernel_rfl)
  refine ⟨madeCells (Value.int .u8 0).cells n, fun wx => ?_, fun wx => ?_⟩
  · have := run_make (P := Tryd.prog) wx 26 5 i0 (.int .u8 0) Tryd.underlying26 hi hz0 .i64 .i64 n n (by omega) (by omega) (by rw [hz2]; omega) (by omega)
    rw [hz1, Int.toNat_natCast, Nat.mul_one] at this
    exact this
  · have h := run_convert_bytes_back (P := Tryd.prog) (wx.alloc (.cells (madeCells (Value.int .u8 0).cells n) 5)) 26 9 5 ⟨wx.heap.size, 0, none⟩ n (List.replicate n 0) Tryd.underlying26 Tryd.underlying5 Tryd.underlying9 (fun j hj => by
      rw [List.length_replicate] at hj
      rw [show (⟨wx.heap.size, 0, none⟩ : Addr).add j = ⟨wx.heap.size, j, none⟩ by simp [Addr.add]; omega]
      unfold World.cell?
      rw [heap_alloc_new]
      simp [madeCells, Value.cells, Nat.mod_one, hj])
    rw [List.length_replicate] at h
    exact h
/-- lines, just made -/
theorem one_at (w : World) (x : List ByteArray) (hx : x.length ≤ 100) :
    LinesAt ((w.alloc (.cells (strs x).toArray 9)).alloc (.cells #[.slice (some ⟨w.heap.size, 0, none⟩) x.length x.length] 29)) (.slice (some ⟨w.heap.size + 1, 0, none⟩) 1 1) [x] ∧
      Below w.heap.size w ((w.alloc (.cells (strs x).toArray 9)).alloc (.cells #[.slice (some ⟨w.heap.size, 0, none⟩) x.length x.length] 29)) := by
  have h1 := list_lit w (strs x) 9 (by simp; omega)
  have b1 := alloc_below w (.cells (strs x).toArray 9)
  generalize hw1 : w.alloc (.cells (strs x).toArray 9) = w1 at *
  have s1 : w1.heap.size = w.heap.size + 1 := by rw [← hw1]; simp
  have h2 := list_lit w1 [.slice (some ⟨w.heap.size, 0, none⟩) x.length x.length] 29 (by simp)
  have b2 := alloc_below w1 (.cells #[.slice (some ⟨w.heap.size, 0, none⟩) x.length x.length] 29)
  rw [s1] at h2
  rw [List.length_map] at h1
  refine ⟨⟨[(x, .slice (some ⟨w.heap.size, 0, none⟩) x.length x.length)], rfl, h2, fun y hy => ?_⟩, b1.trans (b2.mono b1.size)⟩
  rw [List.mem_singleton.1 hy]
  exact ListAt.below h1 b2
theorem two_at (w : World) (x y : List ByteArray) (hx : x.length ≤ 100) (hy : y.length ≤ 100) :
    LinesAt (((w.alloc (.cells (strs x).toArray 9)).alloc (.cells (strs y).toArray 9)).alloc (.cells #[.slice (some ⟨w.heap.size, 0, none⟩) x.length x.length, .slice (some ⟨w.heap.size + 1, 0, none⟩) y.length y.length] 29)) (.slice (some ⟨w.heap.size + 1 + 1, 0, none⟩) 2 2) [x, y] ∧
      Below w.heap.size w (((w.alloc (.cells (strs x).toArray 9)).alloc (.cells (strs y).toArray 9)).alloc (.cells #[.slice (some ⟨w.heap.size, 0, none⟩) x.length x.length, .slice (some ⟨w.heap.size + 1, 0, none⟩) y.length y.length] 29)) := by
  have h1 := list_lit w (strs x) 9 (by simp; omega)
  have b1 := alloc_below w (.cells (strs x).toArray 9)
  generalize hw1 : w.alloc (.cells (strs x).toArray 9) = w1 at *
  have s1 : w1.heap.size = w.heap.size + 1 := by rw [← hw1]; simp
  have h2 := list_lit w1 (strs y) 9 (by simp; omega)
  have b2 := alloc_below w1 (.cells (strs y).toArray 9)
  generalize hw2 : w1.alloc (.cells (strs y).toArray 9) = w2 at *
  have s2 : w2.heap.size = w.heap.size + 1 + 1 := by rw [← hw2]; simp [s1]
  have h3 := list_lit w2 [.slice (some ⟨w.heap.size, 0, none⟩) x.length x.length, .slice (some ⟨w.heap.size + 1, 0, none⟩) y.length y.length] 29 (by simp)
  have b3 := alloc_below w2 (.cells #[.slice (some ⟨w.heap.size, 0, none⟩) x.length x.length, .slice (some ⟨w.heap.size + 1, 0, none⟩) y.length y.length] 29)
  rw [s2] at h3
  rw [s1, List.length_map] at h2
  rw [List.length_map] at h1
  refine ⟨⟨[(x, .slice (some ⟨w.heap.size, 0, none⟩) x.length x.length), (y, .slice (some ⟨w.heap.size + 1, 0, none⟩) y.length y.length)], rfl, h3, fun z hz => ?_⟩, b1.trans ((b2.trans (b3.mono b2.size)).mono b1.size)⟩
  simp only [List.mem_cons, List.not_mem_nil, or_false] at hz
  rcases hz with rfl | rfl
  · exact (ListAt.below h1 b2).below b3
  · exact ListAt.below h2 b3

theorem fits_small {l : List (List ByteArray)} (h1 : l.length ≤ 10) (h2 : ∀ x ∈ l, x.length ≤ 10 ∧ ∀ y ∈ x, y.size ≤ 20000) (h3 : szT (unL l) ≤ 900000) : Fits l :=
  ⟨by omega, fun x hx => by have := (h2 x hx).1; omega, fun x hx y hy => by have := (h2 x hx).2 y hy; omega, h3⟩
theorem join2 (w : World) (ht : Tab w) :
    Calls Tryd.prog 9 #[.slice (some ⟨w.heap.size + 1 + 1, 0, none⟩) 2 2] (((w.alloc (.cells #[.string ⟨#[97]⟩, .string ⟨#[98]⟩] 9)).alloc (.cells #[.string ⟨#[99]⟩] 9)).alloc (.cells #[.slice (some ⟨w.heap.size, 0, none⟩) 2 2, .slice (some ⟨w.heap.size + 1, 0, none⟩) 1 1] 29))
      fun e w' => e = .returned (.tuple #[.string ⟨#[97, 32, 98, 10, 99, 10]⟩, .int .i64 0]) ∧ Below w.heap.size w w' := by
  obtain ⟨h1, h2⟩ := two_at w [⟨#[97]⟩, ⟨#[98]⟩] [⟨#[99]⟩] (by decide) (by decide)
  refine (joinC_calls _ [[⟨#[97]⟩, ⟨#[98]⟩], [⟨#[99]⟩]] _ h1 (fits_small (by decide) (by decide) (by decide)) (ht.on h2)).mono ?_
  rintro e w' ⟨rfl, hb⟩
  refine ⟨?_, h2.trans (hb.mono h2.size)⟩
  rw [show unL [[(⟨#[97]⟩ : ByteArray), ⟨#[98]⟩], [⟨#[99]⟩]] = [[[97], [98]], [[99]]] from rfl, jn_abc.1, jn_abc.2]
  rfl
theorem join1 (w : World) (ht : Tab w) (x : List ByteArray) (er : Int) (hE : jnE (unL [x]) = er) (hne : er ≠ 0) (hx : x.length ≤ 10) (hs : ∀ y ∈ x, y.size ≤ 20000) (hz : szT (unL [x]) ≤ 900000) :
    Calls Tryd.prog 9 #[.slice (some ⟨w.heap.size + 1, 0, none⟩) 1 1] ((w.alloc (.cells (strs x).toArray 9)).alloc (.cells #[.slice (some ⟨w.heap.size, 0, none⟩) x.length x.length] 29))
      fun e w' => e = .returned (.tuple #[.string ⟨#[]⟩, .int .i64 er]) ∧ Below w.heap.size w w' := by
  obtain ⟨h1, h2⟩ := one_at w x (by omega)
  refine (joinC_calls _ [x] _ h1 (fits_small (by simp) (fun y hy => by rw [List.mem_singleton.1 hy]; exact ⟨hx, hs⟩) hz) (ht.on h2)).mono ?_
  rintro e w' ⟨rfl, hb⟩
  refine ⟨?_, h2.trans (hb.mono h2.size)⟩
  rw [hE, jnT_no (by rw [hE]; exact hne)]
  rfl
theorem join_none (w : World) (ht : Tab w) :
    Calls Tryd.prog 9 #[.slice (some ⟨w.heap.size + 1, 0, none⟩) 1 1] ((w.alloc (.cells #[] 9)).alloc (.cells #[.slice (some ⟨w.heap.size, 0, none⟩) 0 0] 29))
      fun e w' => e = .returned (.tuple #[.string ⟨#[]⟩, .int .i64 2]) ∧ Below w.heap.size w w' :=
  join1 w ht [] 2 jn_none (by decide) (by decide) (by simp) (by decide)
theorem join_hash (w : World) (ht : Tab w) :
    Calls Tryd.prog 9 #[.slice (some ⟨w.heap.size + 1, 0, none⟩) 1 1] ((w.alloc (.cells #[.string ⟨#[97, 35]⟩] 9)).alloc (.cells #[.slice (some ⟨w.heap.size, 0, none⟩) 1 1] 29))
      fun e w' => e = .returned (.tuple #[.string ⟨#[]⟩, .int .i64 2]) ∧ Below w.heap.size w w' :=
  join1 w ht [⟨#[97, 35]⟩] 2 jn_hash (by decide) (by decide) (by decide) (by decide)
theorem join_zeros (w : World) (ht : Tab w) (z : ByteArray) (hz : z = mk (List.replicate 16384 0)) :
    Calls Tryd.prog 9 #[.slice (some ⟨w.heap.size + 1, 0, none⟩) 1 1] ((w.alloc (.cells #[.string z] 9)).alloc (.cells #[.slice (some ⟨w.heap.size, 0, none⟩) 1 1] 29))
      fun e w' => e = .returned (.tuple #[.string ⟨#[]⟩, .int .i64 4]) ∧ Below w.heap.size w w' := by
  have hu : unL [[z]] = [[List.replicate 16384 0]] := by rw [hz]; show [[un (mk _)]] = _; rw [un_mk]
  refine join1 w ht [z] 4 (by rw [hu]; exact zeros_jn) (by decide) (by simp) (fun y hy => ?_) ?_
  · rw [List.mem_singleton.1 hy, hz, mk_size, List.length_replicate]; decide
  · rw [hu, szT_one, szL_one, List.length_replicate]; decide
theorem lines_at (s : ByteArray) (t : List UInt8) (hs : s = mk t) (er : Int) (ls : List (List Word)) (h1 : lnE t = er) (h2 : lnT t = ls) (w : World) (ht : Tab w) :
    Calls Tryd.prog 8 #[.string s] w fun e w' => ∃ u, e = .returned (.tuple #[u, .int .i64 er]) ∧ LinesAt w' u (mkL ls) ∧ Below w.heap.size w w' := by
  subst hs
  refine (LxL.lines_calls (mk t) w ht).mono fun e w' h => ?_
  have := lna h
  unfold LnA at this
  rw [un_mk, h1, h2] at this
  exact this
theorem are_true (s : ByteArray) (v : Value) (want : List (List ByteArray)) (h : lnE (un s) = 0 ∧ mkL (lnT (un s)) = want) (w : World) (hv : LinesAt w v want) (ht : Tab w) :
    Calls Tryd.prog 13 #[.string s, v] w (BoolR true w) := by
  have := are_calls s v want w hv ht
  rw [decide_eq_true h] at this
  exact this

set_option maxRecDepth 100000 in
set_option maxHeartbeats 8000000 in
theorem walk (W : World) (ht : Tab W) :
    Calls Tryd.prog 3 #[] W fun e W' => e = .returned (.bool true) ∧ Below W.heap.size W W' := by
  have HT := hid (fun wx (hb : Below W.heap.size W wx) => ht.on hb)
  obtain ⟨C1, hm1', hv1⟩ := made_str 16385 (by decide)
  obtain ⟨C2, hm2', hv2⟩ := made_str 16384 (by decide)
  have hm1 : ∀ wx : World, (Instr.makeSlice 26 (.int .i64 16385) (.int .i64 16385)).run Tryd.prog wx = .ok (.slice (some ⟨wx.heap.size, 0, none⟩) 16385 16385) (wx.alloc (.cells C1 5)) := hm1'
  have hm2 : ∀ wx : World, (Instr.makeSlice 26 (.int .i64 16384) (.int .i64 16384)).run Tryd.prog wx = .ok (.slice (some ⟨wx.heap.size, 0, none⟩) 16384 16384) (wx.alloc (.cells C2 5)) := hm2'
  clear hm1' hm2'
  have HZ2 : Hid (mk (List.replicate 16384 0) = mk (List.replicate 16384 0)) := rfl
  have HL3 := hid (fun w ht => lines_at (mk (List.replicate 16385 0)) _ rfl 4 [] (lnE_big (by rw [List.length_replicate]; decide)) (lnT_no (lnE_big (by rw [List.length_replicate]; decide))) w ht)
  have HJZ := hid (fun w ht => join_zeros w ht (mk (List.replicate 16384 0)) rfl)
  generalize mk (List.replicate 16384 0) = z2 at *
  generalize mk (List.replicate 16385 0) = z1 at *
  have HL1 := hid (fun w ht => lines_at (mk (rep 64)) _ rfl 0 _ rep64.1 rep64.2 w ht)
  have HL2 := hid (fun w ht => lines_at (mk (rep 64 ++ [97])) _ rfl 4 [] rep65 (lnT_no rep65) w ht)
  clear HZ2 ht
  go_enter Tryd.func3, Tryd.ntmps3
  go_wp2
  go_loopg [1, 2] 64 (fun gk nv iv wr => ∃ i : Nat, i + gk = 64 ∧ iv = .int .i64 i ∧ nv = .string (mk (rep i)) ∧ Below W.heap.size W wr)
  case atStart => exact ⟨0, by omega, rfl, rfl, Below.refl _ _⟩
  case round =>
    obtain ⟨i, hi, rfl, rfl, hbe⟩ := hrel
    have HK := hid hi
    by_cases hlt : i < 64
    · have hadd : ∀ wx, (Op.stringOp .add (mk (rep i)) ⟨#[97, 32]⟩).run Tryd.prog wx = .ok (.string (mk (rep (i + 1)))) wx := fun wx => add_mk (rep i) [97, 32] (by rw [rep_len]; omega) (by simp) wx
      generalize hz : mk (rep (i + 1)) = z at *
      have HZ := hid hz
      generalize mk (rep i) = y at *
      clear hi hz hm1 hm2 hv1 hv2
      go_wp2
      go_roundg (gk - 1)
      case measure => have := HK.out; omega
      case rel => exact ⟨i + 1, by have := HK.out; omega, by go_num, by rw [HZ.out], hbe⟩
    · obtain rfl : i = 64 := by omega
      have hadd : ∀ wx, (Op.stringOp .add (mk (rep 64)) ⟨#[97]⟩).run Tryd.prog wx = .ok (.string (mk (rep 64 ++ [97]))) wx := fun wx => add_mk (rep 64) [97] (by rw [rep_len]; decide) (by simp) wx
      generalize mk (rep 64 ++ [97]) = y2 at *
      generalize mk (rep 64) = y1 at *
      have HC := hid (HL1.out wr (HT.out wr hbe))
      clear hi hlt HL1
      go_wp2_with fail
      refine HC.out.mono ?_
      rintro e w1 ⟨u1, rfl, hu1, hb1⟩
      have HB1 := hid (hbe.trans (hb1.mono hbe.size))
      have HTX := hid (fun wx (hb : Below w1.heap.size w1 wx) => HT.out wx (HB1.out.trans (hb.mono HB1.out.size)))
      obtain ⟨ua, uc, rfl, _⟩ := hu1.slice
      obtain ⟨b, o, pv, rfl, hbb, hcell, hp⟩ := hu1.at 0 (by decide)
      obtain ⟨pa, pc, rfl, _⟩ := hp.slice
      simp only [List.length_map, List.length_cons, List.length_nil, Nat.zero_add, Nat.add_zero, List.getElem_map, List.getElem_cons_zero, List.length_replicate] at hcell ⊢
      have HCELL : Hid (∀ wx, Below w1.heap.size w1 wx → wx.cell? ⟨b, o, none⟩ = some (.slice pa 64 pc)) := fun wx hb => (hb.cell (p := ⟨b, _, none⟩) hbb).trans hcell
      have HC := hid (HL2.out w1 (HTX.out w1 (Below.refl _ _)))
      clear HL2 hu1 hb1 hbe hp hcell HT
      go_wp2_with fail
      refine HC.out.mono ?_
      rintro e w2 ⟨u2, rfl, hu2, hx2⟩
      obtain ⟨u2a, u2c, rfl, _⟩ := hu2.slice
      have hba : Below w2.heap.size w2 (w2.alloc (.cells C1 5)) := alloc_below _ _
      have hx3 := hx2.trans (hba.mono hx2.size)
      have HC := hid (HL3.out _ (HTX.out _ hx3))
      have HX3 := hid hx3
      clear HL3 hu2 hx2 hba hx3
      go_wp2_with fail
      refine HC.out.mono ?_
      rintro e w3 ⟨u3, rfl, hu3, hb3⟩
      obtain ⟨u3a, u3c, rfl, _⟩ := hu3.slice
      have HX3' := hid (HX3.out.trans (hb3.mono HX3.out.size))
      have HC := hid (join2 w3 (HTX.out w3 HX3'.out))
      clear hu3 hb3 HX3 hm1 hv1
      go_wp2_with fail
      refine HC.out.mono ?_
      rintro e w4 ⟨rfl, hb4⟩
      have HX4 := hid (HX3'.out.trans (hb4.mono HX3'.out.size))
      have HC := hid (join_none w4 (HTX.out w4 HX4.out))
      clear hb4 HX3'
      go_wp2_with fail
      refine HC.out.mono ?_
      rintro e w5 ⟨rfl, hb5⟩
      have HX5 := hid (HX4.out.trans (hb5.mono HX4.out.size))
      have HC := hid (join_hash w5 (HTX.out w5 HX5.out))
      clear hb5 HX4
      go_wp2_with fail
      refine HC.out.mono ?_
      rintro e w6 ⟨rfl, hb6⟩
      have HX6 := hid (HX5.out.trans (hb6.mono HX5.out.size))
      have hba : Below w6.heap.size w6 (w6.alloc (.cells C2 5)) := alloc_below _ _
      have HX6a := hid (HX6.out.trans (hba.mono HX6.out.size))
      have HC := hid (HJZ.out (w6.alloc (.cells C2 5)) (HTX.out _ HX6a.out))
      rw [show (w6.alloc (.cells C2 5)).heap.size = w6.heap.size + 1 by simp] at HC
      clear hb6 hba HX5 HX6 HJZ
      go_wp2_with fail
      refine HC.out.mono ?_
      rintro e w7 ⟨rfl, hb7⟩
      have HX7 := hid (HX6a.out.trans ((show Below (w6.alloc (.cells C2 5)).heap.size _ _ by simpa using hb7).mono HX6a.out.size))
      have HC := hid (alive_calls w7 (HTX.out w7 HX7.out))
      clear hb7 HX6a hm2 hv2
      go_wp2_with fail
      refine HC.out.mono ?_
      rintro e w8 ⟨rfl, hb8⟩
      have HX8 := hid (HX7.out.trans (hb8.mono HX7.out.size))
      have hcell := HCELL.out w8 HX8.out
      have HC := hid (none_true ⟨#[114]⟩ (by decide) (mkN_c rfl (by decide +kernel)) w8)
      clear hb8 HX7 HCELL
      go_wp2_with fail
      refine HC.out.mono ?_
      rintro e w9 ⟨rfl, hb9⟩
      have HX9 := hid (HX8.out.trans (hb9.mono HX8.out.size))
      have HC := hid (none_true ⟨#[120, 49]⟩ (by decide) (mkN_c rfl (by decide +kernel)) w9)
      clear hb9 HX8
      go_wp2_with fail
      refine HC.out.mono ?_
      rintro e w10 ⟨rfl, hb10⟩
      have HX10 := hid (HX9.out.trans (hb10.mono HX9.out.size))
      have HC := hid (none_true ⟨#[]⟩ (by decide) (mkN_c rfl (by decide +kernel)) w10)
      clear hb10 HX9
      go_wp2_with fail
      refine HC.out.mono ?_
      rintro e w11 ⟨rfl, hb11⟩
      have HX11 := hid (HX10.out.trans (hb11.mono HX10.out.size))
      have HC := hid (none_true ⟨#[114, 49, 48, 48, 48]⟩ (by decide) (mkN_c rfl (by decide +kernel)) w11)
      clear hb11 HX10
      go_wp2_with fail
      refine HC.out.mono ?_
      rintro e w12 ⟨rfl, hb12⟩
      have HX12 := hid (HX11.out.trans (hb12.mono HX11.out.size))
      have HC := hid (mark_true ⟨#[114, 57, 57, 57]⟩ (by decide) 999 (mkN_c rfl (by decide +kernel)) w12)
      clear hb12 HX11
      go_wp2_with fail
      refine HC.out.mono ?_
      rintro e w13 ⟨rfl, hb13⟩
      have HX13 := hid (HX12.out.trans (hb13.mono HX12.out.size))
      have HC := hid (mark_true ⟨#[114, 48]⟩ (by decide) 0 (mkN_c rfl (by decide +kernel)) w13)
      clear hb13 HX12
      go_wp2_with fail
      refine HC.out.mono ?_
      rintro e w14 ⟨rfl, hb14⟩
      have HX14 := hid (HX13.out.trans (hb14.mono HX13.out.size))
      have HC := hid (are_true ⟨#[]⟩ (.slice none 0 0) [] (by decide +kernel) w14 ⟨[], rfl, list_none _, by simp⟩ (HTX.out _ HX14.out))
      clear hb14 HX13
      go_wp2_with fail
      refine HC.out.mono ?_
      rintro e w15 ⟨rfl, hb15⟩
      have HX15 := hid (HX14.out.trans (hb15.mono HX14.out.size))
      obtain ⟨hl, hbl⟩ := one_at w15 [⟨#[97]⟩] (by decide)
      have HXL := hid (HX15.out.trans (hbl.mono HX15.out.size))
      have HC : Hid (Calls Tryd.prog 13 #[.string ⟨#[13, 10, 97, 13, 10]⟩, .slice (some ⟨w15.heap.size + 1, 0, none⟩) 1 1] ((w15.alloc (.cells #[.string ⟨#[97]⟩] 9)).alloc (.cells #[.slice (some ⟨w15.heap.size, 0, none⟩) 1 1] 29)) (BoolR true ((w15.alloc (.cells #[.string ⟨#[97]⟩] 9)).alloc (.cells #[.slice (some ⟨w15.heap.size, 0, none⟩) 1 1] 29)))) :=
        are_true ⟨#[13, 10, 97, 13, 10]⟩ _ [[⟨#[97]⟩]] (by decide +kernel) _ hl (HTX.out _ HXL.out)
      have HXM : Hid (Below w1.heap.size w1 ((w15.alloc (.cells #[.string ⟨#[97]⟩] 9)).alloc (.cells #[.slice (some ⟨w15.heap.size, 0, none⟩) 1 1] 29))) := HXL
      clear hb15 HX14 hl hbl HXL
      go_wp2_with fail
      refine HC.out.mono ?_
      rintro e wz ⟨rfl, hbz⟩
      have hbf := HB1.out.trans ((HXM.out.trans (hbz.mono HXM.out.size)).mono HB1.out.size)
      clear hbz HXM
      go_wp2
      go_ret
      exact ⟨rfl, hbf⟩
end Go.Proofs.YtfnibkepkomcdaaDoor.LxNW
