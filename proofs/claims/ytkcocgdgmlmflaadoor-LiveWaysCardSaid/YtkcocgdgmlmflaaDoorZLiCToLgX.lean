/- Walk over live.cut: what a block reads from a place on. Walk over live.phis: the registers that phis read at a block's end. Walk over shape.Reg. Walk over fescuelaw11.within. -/
import Derived.Test.YtkcocgdgmlmflaaDoorZFkNToLiB
import Derived.Test.YtkcocgdgmlmflaaDoorZShBToShW
import Derived.Test.YtkcocgdgmlmflaaDoorZShIToShJ
import Derived.Test.YtkcocgdgmlmflaaDoorZFwRToRwO
import Derived.Test.YtkcocgdgmlmflaaDoorZTyMToShN
namespace Go.Proofs.YtkcocgdgmlmflaaDoor.LiC
open Go.RowKit Go.Lib SetP IntO TyM TyP TyB TyD ShM ShP ShA ShU ShW Aft Fresh BitOf FwQ FwR FwO IntG BlkG LgX LiM LiA LiB

/-- a row from a place on -/
theorem sizeIx (w : World) : (sizeOf (Tryd.prog.elem 37)).run Tryd.prog w = .ok 7 w := by kernel_rfl
theorem ins_drop {w : World} {ao : Option Addr} {n cap : Nat} {xs : List Ix} (h : InsAt w (.slice ao n cap) xs) {k : Nat} (hk : k ≤ xs.length) : ∃ v, InsAt w v (xs.drop k) ∧ (∀ wx : World, (Instr.slice 37 (.slice ao n cap) (some (.int .i64 (k : Int))) none none).run Tryd.prog wx = .ok v wx) := by
  obtain ⟨ao2, cap2, he, hl, hm, hz, hc⟩ := h
  cases he
  refine ⟨sliced ao k xs.length cap 7, ?_, fun wx => ?_⟩
  · unfold sliced
    have hlen : (xs.drop k).length = xs.length - k := List.length_drop
    by_cases e : cap = k
    · rw [if_pos e]
      refine ⟨ao, cap - k, by rw [hlen], by omega, fun h0 => by omega, fun h0 => by have := hz h0; omega, by omega⟩
    · rw [if_neg e]
      refine ⟨ao.map (·.add (k * 7)), cap - k, by rw [hlen], by omega, fun h0 => ?_, fun h0 => ?_, by omega⟩
      · obtain ⟨b, off, rfl, hlt, hcell⟩ := hm (by omega)
        refine ⟨b, off + k * 7, by simp [Addr.add], hlt, fun i hi => ?_⟩
        have h1 := hcell (k + i) (by omega)
        rw [List.getElem_drop, show off + k * 7 + i * 7 = off + (k + i) * 7 by omega]
        exact h1
      · cases ao with
        | none => have := hz rfl; omega
        | some a => cases h0
  · rw [run_slice_l (P := Tryd.prog) (w := wx) 37 ao xs.length cap (by kernel_rfl) .i64 (k : Int) (by omega) (by omega), sizeIx]
    rfl
theorem set_other {w : World} {b i : Nat} {u : Value} {a : Addr} (h : a.block ≠ b) : (w.setCell ⟨b, i, none⟩ u).cell? a = w.cell? a := by
  unfold World.cell?
  rw [Below.heap_setCell w ⟨b, i, none⟩ u a.block h]
theorem newSt_set {B b i : Nat} {w : World} {v u : Value} {s : List Wd} (h : NewSt B w v s) (hb : b < B) : NewSt B (w.setCell ⟨b, i, none⟩ u) v s := owns_set h hb
theorem newSt_base {B B2 : Nat} {w : World} {v : Value} {s : List Wd} (h : NewSt B w v s) (hb : B2 ≤ B) : NewSt B2 w v s := owns_base h hb
/-- the next instruction -/
theorem CutSt.next {w0 w : World} {Bc Bl fr k : Nat} {v : Value} {L : List Int} (h : CutSt w0 Bc Bl fr k v L w) : CutSt w0 Bc Bl fr (k + 1) v L (w.setCell ⟨Bc, 2, none⟩ (.int .i64 ((fr + (k + 1) : Nat) : Int))) := by
  obtain ⟨m, hm⟩ := h.row
  refine ⟨?_, (Below.heap_setCell w ⟨Bc, 2, none⟩ _ Bl (fun e => h.ne e.symm)).trans h.lst, ⟨m, hm.kept (row := some Bc) ⟨rfl, rfl, rfl, by rw [TyD.size_set]; exact Nat.le_refl _, fun j _ hj => Below.heap_setCell w ⟨Bc, 2, none⟩ _ j (fun e => hj (by rw [e]))⟩ (.inr (row_box hm h.box (by decide)))⟩, h.bel.setCell (p := ⟨Bc, 2, none⟩) h.old2 _, h.old, h.old2⟩
  have := TyD.set_heap (i := 2) (.int .i64 ((fr + (k + 1) : Nat) : Int)) h.box
  simpa using this
theorem seen_len {x : Ix} (h : x.args.length ≤ 16) : (LuM.seen x).length ≤ 20 := by
  unfold LuM.seen
  split
  · simp
  · exact uses_len h
theorem readK_len {fr : Nat} {xs : List Ix} (h : ∀ x ∈ xs, x.args.length ≤ 16) : ∀ (k : Nat), (readK fr xs k).length ≤ 20 * k
  | 0 => by simp [readK]
  | k + 1 => by
    have h1 := readK_len h k (fr := fr)
    show (readK fr xs k ++ _).length ≤ _
    rw [List.length_append]
    cases e : xs[k]? with
    | none => simp; omega
    | some x =>
      have h2 := outs_len fr k (LuM.seen x)
      have h3 := seen_len (h x (List.mem_of_getElem? e))
      show _ + (outs fr k (LuM.seen x)).length ≤ _
      omega
theorem set3_world (w : World) (b : Nat) (t : TypeId) (x0 x1 x2 : Value) (u0 u1 u2 : Value) (h : w.heap[b]? = some (.cells #[x0, x1, x2] t (0, 0))) :
    ∃ W3, W3 = (((w.setCell ⟨b, 0, none⟩ u0).setCell ⟨b, 1, none⟩ u1).setCell ⟨b, 2, none⟩ u2) ∧ W3.heap[b]? = some (.cells #[u0, u1, u2] t (0, 0)) ∧ ∀ B a, Below B a w → B ≤ b → Below B a W3 :=
  ⟨_, rfl, (TyD.set_heap (i := 2) u2 (TyD.set_heap (i := 1) u1 (TyD.set_heap (i := 0) u0 h))).trans (by simp), fun B a hb hB => (((hb.setCell (p := ⟨b, 0, none⟩) hB u0).setCell (p := ⟨b, 1, none⟩) hB u1).setCell (p := ⟨b, 2, none⟩) hB u2)⟩
theorem partUnder : Tryd.prog.underlying 63 = some (.struct (Tryd.prog.fieldsOf 63)) := by kernel_rfl
theorem partSize : (Tryd.prog.info? 63).map (·.size) = some 3 := by kernel_rfl
/-- a block's part -/
def PartR (w : World) (fr n : Nat) (L : List Int) (e : Ending) (w' : World) : Prop := ∃ u, e = .returned (.agg #[u, .int .i64 ((fr : Nat) : Int), .int .i64 ((fr + n : Nat) : Int)]) ∧ NewSt w.heap.size w' u (ofS L) ∧ Below w.heap.size w w'

set_option maxRecDepth 100000 in
set_option maxHeartbeats 8000000 in
theorem cut_c (x : Bx) (vi : Value) (first pl : Nat) (w : World) (hins : InsAt w vi x.ins) (ht : Tab w) (hpl : pl ≤ x.ins.length) (hl : x.ins.length ≤ 128) (hio : ∀ y ∈ x.ins, (0 ≤ y.op ∧ y.op ≤ 255) ∧ y.args.length ≤ 16) (hen : 0 ≤ x.en.kind ∧ x.en.kind ≤ 255) (hf : first ≤ 100000) :
    Calls Tryd.prog 22 #[bxV x vi, .int .i64 (first : Int), .int .i64 (pl : Int)] w (PartR w (first + pl) (x.ins.drop pl).length (cutR (first + pl) (x.ins.drop pl) x.en)) := by
  obtain ⟨xins, ⟨ek, ea, et, ee⟩⟩ := x
  simp only at *
  obtain ⟨xa, xc, rfl, _⟩ := hins.slice
  obtain ⟨vd, hvd, hrun⟩ := ins_drop hins hpl
  obtain ⟨da, dc, rfl, _⟩ := hvd.slice
  have HDL : Hid ((xins.drop pl).length ≤ 128) := by show _ ≤ _; rw [List.length_drop]; omega
  have HIO : Hid (∀ y ∈ xins.drop pl, (0 ≤ y.op ∧ y.op ≤ 255) ∧ y.args.length ≤ 16) := fun y hy => hio y (List.mem_of_mem_drop hy)
  have HRL := hid (readK_len (fr := first + pl) (fun y hy => (HIO.out y hy).2))
  have HRS := hid (fun (k : Nat) (y : Ix) (h : (xins.drop pl)[k]? = some y) => readK_succ (fr := first + pl) h)
  have HCE : Hid (cutR (first + pl) (xins.drop pl) ⟨ek, ea, et, ee⟩ = readK (first + pl) (xins.drop pl) (xins.drop pl).length ++ outs (first + pl) (xins.drop pl).length (endsOf ⟨ek, ea, et, ee⟩)) := rfl
  obtain ⟨fr, hfr⟩ : ∃ fr, first + pl = fr := ⟨_, rfl⟩
  have e1 : (first : Int) + (pl : Int) = (fr : Int) := by omega
  have HFR : Hid (fr ≤ 100128) := by show _ ≤ _; omega
  rw [hfr] at HCE HRL HRS ⊢
  obtain ⟨W0, hW0⟩ : ∃ W0, W0 = (w.alloc (.cells #[.slice xa xins.length xc, .int .u8 ek, .int .i64 ea, .int .i64 et, .int .i64 ee] 41)).alloc (.cells #[.slice none 0 0, .int .i64 0, .int .i64 0] 63) := ⟨_, rfl⟩
  have hb0 : Below w.heap.size w W0 := by rw [hW0]; exact ((Below.refl _ w).alloc (Nat.le_refl _) _).alloc (by simp) _
  have hs0 : W0.heap.size = w.heap.size + 1 + 1 := by rw [hW0]; simp
  have k0 : W0.heap[w.heap.size]? = some (.cells #[.slice xa xins.length xc, .int .u8 ek, .int .i64 ea, .int .i64 et, .int .i64 ee] 41 (0, 0)) := by
    rw [hW0]
    exact ((alloc_below _ _).block _ (by simp)).trans (alloc_new _ _)
  have r0 : W0.heap[w.heap.size + 1]? = some (.cells #[.slice none 0 0, .int .i64 0, .int .i64 0] 63 (0, 0)) := by
    rw [hW0]
    have := alloc_new (w.alloc (.cells #[.slice xa xins.length xc, .int .u8 ek, .int .i64 ea, .int .i64 et, .int .i64 ee] 41)) (.cells #[.slice none 0 0, .int .i64 0, .int .i64 0] 63)
    rwa [World.size_alloc] at this
  have HTD := hid (fun wx (h : Aft W0 wx) => ht.on (h.out hb0))
  have HVD := hid (hvd.below insStays hb0)
  have HEN := hid hen
  have HB0 := hid hb0
  have HW0 := hid hW0
  obtain ⟨n, hn⟩ : ∃ n, w.heap.size = n := ⟨_, rfl⟩
  rw [hn] at hs0 k0 r0
  have HN := hid hn
  obtain ⟨Bc, hBc⟩ : ∃ Bc, n + 1 + 1 = Bc := ⟨_, rfl⟩
  obtain ⟨Bl, hBl⟩ : ∃ Bl, Bc + 1 = Bl := ⟨_, rfl⟩
  rw [hBc] at hs0
  have l1 := later_cells k0 1 _ rfl; have l2 := later_cells k0 2 _ rfl; have l3 := later_cells k0 3 _ rfl; have l4 := later_cells k0 4 _ rfl
  have hst : CutSt W0 Bc Bl fr 0 (.slice none 0 0) (readK fr (xins.drop pl) 0) ((W0.alloc (.cells #[.slice none 0 0, .int .i64 (fr : Int), .int .i64 (fr : Int)] 63)).alloc (.cells #[.slice none 0 0] 22)) := by
    have z1 := alloc_new W0 (.cells #[.slice none 0 0, .int .i64 (fr : Int), .int .i64 (fr : Int)] 63)
    have z2 := alloc_new (W0.alloc (.cells #[.slice none 0 0, .int .i64 (fr : Int), .int .i64 (fr : Int)] 63)) (.cells #[.slice none 0 0] 22)
    rw [World.size_alloc, hs0, hBl] at z2
    rw [hs0] at z1
    refine ⟨((alloc_below _ _).block _ (by rw [World.size_alloc]; omega)).trans z1, z2, ⟨0, rfl, .inl ⟨rfl, rfl⟩⟩, ?_, by omega, by omega⟩
    exact ((Below.refl _ _).alloc (Nat.le_refl _) _).alloc (by rw [World.size_alloc]; omega) _
  have HR0 := hid (later_heap r0)
  have HST := hid hst
  have HS0 := hid hs0
  have HBL := hid hBl
  have HBC := hid hBc
  clear hst hs0 hins hvd hio hen ht hb0 hW0 k0 r0 hpl hl hfr hf hn hBc hBl
  have hfb := HFR.out
  generalize xins.drop pl = xs at *
  generalize xins.length = n0 at *
  go_enter Tryd.func22, Tryd.ntmps22
  go_wp2_with fail
  rw [← HW0.out, HN.out, HBC.out, HBL.out]
  obtain ⟨wl, hwl⟩ : ∃ wl, wl = (W0.alloc (.cells #[.slice none 0 0, .int .i64 (fr : Int), .int .i64 (fr : Int)] 63)).alloc (.cells #[.slice none 0 0] 22) := ⟨_, rfl⟩
  rw [← hwl]
  rw [← hwl] at HST
  clear hwl hrun e1 hfb
  go_loopg [11, 25] xs.length (fun gk _ i wr => ∃ (k : Nat) (v1 : Value), k + gk = xs.length ∧ i = .int .i64 k ∧ CutSt W0 Bc Bl fr k v1 (readK fr xs k) wr)
  case atStart => exact ⟨0, _, by omega, rfl, HST.out⟩
  case round =>
    obtain ⟨k, v1, hk, rfl, hst⟩ := hrel
    have HK := hid hk
    have HST1 := hid hst
    have hA : Aft W0 wr := hst.bel
    clear HST hk hst
    by_cases hlt : k < xs.length
    · have HLT := hid hlt
      obtain ⟨y, hy⟩ := some_at hlt
      obtain ⟨gi, ioff, aa, ac, fa2, fc2, rfl, i0, i1, i2, i3, i4, i5, i6, ja, jf⟩ := ins_later HVD.out hy
      have hio := HIO.out y (List.mem_of_getElem? hy)
      have HSC := hid (HRS.out k y hy)
      have HRLk := hid (HRL.out k)
      have c0 := i0 wr hA; have c1 := i1 wr hA; have c2 := i2 wr hA; have c3 := i3 wr hA; have c4 := i4 wr hA; have c5 := i5 wr hA; have c6 := i6 wr hA
      have hkx : (k : Int) < (xs.length : Int) := by omega
      have hkb : k ≤ 9223372036854775806 := by have := HDL.out; omega
      obtain ⟨W6, hW6⟩ : ∃ W6, W6 = wr.alloc (.cells #[.int .u8 y.op, .int .i64 y.typ, .int .i64 y.a, .int .i64 y.b, .int .i64 y.n, .slice aa y.args.length ac, .slice fa2 y.frm.length fc2] 48) := ⟨_, rfl⟩
      have hb6 : Below wr.heap.size wr W6 := by rw [hW6]; exact alloc_below _ _
      have k6 : W6.heap[wr.heap.size]? = some (.cells #[.int .u8 y.op, .int .i64 y.typ, .int .i64 y.a, .int .i64 y.b, .int .i64 y.n, .slice aa y.args.length ac, .slice fa2 y.frm.length fc2] 48 (0, 0)) := by rw [hW6]; exact alloc_new _ _
      have m0 := later_cells k6 0 _ rfl W6 (Aft.refl _); have m1 := later_cells k6 1 _ rfl W6 (Aft.refl _); have m2 := later_cells k6 2 _ rfl W6 (Aft.refl _); have m3 := later_cells k6 3 _ rfl W6 (Aft.refl _); have m4 := later_cells k6 4 _ rfl W6 (Aft.refl _); have m5 := later_cells k6 5 _ rfl W6 (Aft.refl _); have m6 := later_cells k6 6 _ rfl W6 (Aft.refl _)
      have hst6 := HST1.out.go hb6
      have hA6 : Aft W0 W6 := hA.go hb6
      have HUC := hid (uses_calls y _ (.slice fa2 y.frm.length fc2) W6 hio.1.1 hio.1.2 (HTD.out W6 hA6) (ja W6 hA6) (by omega) ⟨_, _, _, rfl⟩)
      have HUL := hid (uses_len hio.2)
      have HSE : Hid (∀ h : y.op = 22, LuM.seen y = []) := fun h => by unfold LuM.seen; rw [if_pos h]
      have HSU : Hid (∀ h : y.op ≠ 22, LuM.seen y = usesOf y) := fun h => by unfold LuM.seen; rw [if_neg h]
      have HW6 := hid hW6
      have HST6 := hid hst6
      obtain ⟨q, hq⟩ : ∃ q, fr + k = q := ⟨_, rfl⟩
      have HNX := hid (fun (v : Value) (wz : World) (h : CutSt W0 Bc Bl fr k v (readK fr xs k ++ outs fr k (LuM.seen y)) wz) => CutSt.next h)
      rw [← HSC.out, show ((fr + (k + 1) : Nat) : Int) = (q : Int) + 1 by omega] at HNX
      have hqb : q ≤ 9223372036854775806 := by have := HFR.out; have := HDL.out; omega
      have HCC := hid (fun (v : Value) (L : List Int) (wz : World) (h : CutSt W0 Bc Bl fr k v L wz) => (⟨h.cells.2.2, by unfold World.frozen?; rw [h.box]; simp⟩ : wz.cell? ⟨Bc, 2, none⟩ = some (.int .i64 ((fr + k : Nat) : Int)) ∧ wz.frozen? ⟨Bc, 2, none⟩ = false))
      rw [hq] at HCC
      have HC1 := hid (fun (u : Value) (w7 : World) (h7 : Below W6.heap.size W6 w7) (hu : NewI W6.heap.size w7 u (usesOf y)) => cut1_c W0 Bc Bl fr k v1 (readK fr xs k) w7 (hst6.go h7) u (usesOf y) hu.1 (hst6.away hu) (by have := HUL.out; omega) (by have := HRLk.out; have := HDL.out; omega))
      clear i0 i1 i2 i3 i4 i5 i6 ja jf hio hy hA hW6 hb6 k6 hst6 hA6 hq HRS HRL HIO HTD HVD HST1 hlt
      obtain ⟨yop, yty, ya, yb, yn, yar, yfr⟩ := y
      simp only at *
      go_upto_region 7 with fail
      rw [← HW6.out]
      by_cases h22 : yop = 22
      · have e22 : (yop != 22) = false := by simp [h22]
        have HS0 := HSE.out h22
        have h9 : CutSt W0 Bc Bl fr k v1 (readK fr xs k ++ outs fr k (LuM.seen ⟨yop, yty, ya, yb, yn, yar, yfr⟩)) W6 := by
          rw [HS0]
          simpa [outs] using HST6.out
        obtain ⟨x0, x1⟩ := HCC.out _ _ _ h9
        rw [← HSC.out] at h9
        have HR := hid (HNX.out _ _ h9)
        clear h22 HS0 h9 HNX HCC HSE HSU HC1 HUC HST6 c0 c1 c2 c3 c4 c5 c6 m1 m2 m3 m4 m5 m6
        go_wp2
        go_roundg (gk - 1)
        case measure => have := HK.out; have := HLT.out; omega
        case rel => exact ⟨k + 1, _, by have := HK.out; have := HLT.out; omega, by go_num, HR.out⟩
      · have e22 : (yop != 22) = true := by simpa using h22
        rw [← HSU.out h22] at HUC HC1
        rw [← HSU.out h22] at HUL
        clear h22 HSE HSU
        generalize LuM.seen ⟨yop, yty, ya, yb, yn, yar, yfr⟩ = us at *
        go_wp2_with fail
        refine HUC.out.mono ?_
        rintro e w7 ⟨u7, m7, rfl, hu7, hb7⟩
        have HC := hid (HC1.out u7 w7 hb7 (newI_of hu7 (by have := HUL.out; omega)))
        obtain ⟨ua, uc, rfl⟩ := RwO.own_form hu7
        clear HUC hu7 hb7 HC1 c0 c1 c2 c3 c4 c5 c6 m0 m1 m2 m3 m4 m5 m6
        go_wp2_with fail
        refine HC.out.mono ?_
        rintro e w8 ⟨rfl, v8, h8⟩
        obtain ⟨x0, x1⟩ := HCC.out _ _ _ h8
        rw [← HSC.out] at h8
        have HR := hid (HNX.out _ _ h8)
        clear h8 HC HCC HNX
        go_wp2
        go_roundg (gk - 1)
        case measure => have := HK.out; have := HLT.out; omega
        case rel => exact ⟨k + 1, _, by have := HK.out; have := HLT.out; omega, by go_num, HR.out⟩
    · obtain rfl : k = xs.length := by have := HK.out; omega
      have q1 := l1 wr hA; have q2 := l2 wr hA; have q3 := l3 wr hA; have q4 := l4 wr hA
      have HEC := hid (ends_calls ⟨ek, ea, et, ee⟩ wr HEN.out.1 HEN.out.2 (HTD.out wr hA))
      have HEL := hid (ends_len ⟨ek, ea, et, ee⟩)
      have HC1 := hid (fun (u : Value) (w7 : World) (h7 : Below wr.heap.size wr w7) (hu : NewI wr.heap.size w7 u (endsOf ⟨ek, ea, et, ee⟩)) => cut1_c W0 Bc Bl fr xs.length v1 (readK fr xs xs.length) w7 (HST1.out.go h7) u (endsOf ⟨ek, ea, et, ee⟩) hu.1 (HST1.out.away hu) (by have := HEL.out; omega) (by have := HRL.out xs.length; have := HDL.out; omega))
      rw [← HCE.out] at HC1
      have HB := hid hA
      have HCL : Hid ((cutR fr xs ⟨ek, ea, et, ee⟩).length ≤ 100000) := by
        show _ ≤ _
        rw [HCE.out, List.length_append]
        have h1 := HRL.out xs.length
        have h2 := outs_len fr xs.length (endsOf ⟨ek, ea, et, ee⟩)
        have h3 := HEL.out
        have h4 := HDL.out
        omega
      clear l1 l2 l3 l4 hA hlt HRL HRS HIO HTD HVD HCE
      generalize endsOf ⟨ek, ea, et, ee⟩ = es at *
      generalize cutR fr xs ⟨ek, ea, et, ee⟩ = cl at *
      go_wp2_with fail
      refine HEC.out.mono ?_
      rintro e w7 ⟨u7, m7, rfl, hu7, hb7⟩
      have HC := hid (HC1.out u7 w7 hb7 (newI_of hu7 (by have := HEL.out; omega)))
      obtain ⟨ua, uc, rfl⟩ := RwO.own_form hu7
      clear HEC hu7 hb7 HC1 q1 q2 q3 q4 HST1
      go_wp2_with fail
      refine HC.out.mono ?_
      rintro e w8 ⟨rfl, v8, h8⟩
      obtain ⟨m8, hm8⟩ := h8.row
      have hbx := h8.lst.cell
      have hcl := HCL.out
      have HSC := hid (set_c v8 cl w8 (intsAt_of_owns hm8 (by omega)))
      have H8 := hid h8
      clear HC h8 hm8 hcl
      go_wp2_with fail
      refine HSC.out.mono ?_
      rintro e w9 ⟨u9, rfl, hu9, hb9⟩
      have h9 := H8.out.go hb9
      obtain ⟨y0, y1, y2⟩ := h9.cells
      have f9 : w9.frozen? ⟨Bc, 0, none⟩ = false := by unfold World.frozen?; rw [h9.box]; simp
      have r9 := HR0.out w9 h9.bel
      obtain ⟨ua9, uc9, rfl⟩ := RwO.own_form hu9
      obtain ⟨w10, hw10⟩ : ∃ w10, w10 = w9.setCell ⟨Bc, 0, none⟩ (.slice ua9 (ofS cl).length uc9) := ⟨_, rfl⟩
      have hne : Bc ≠ n + 1 := by have := HBC.out; omega
      have b10 : w10.heap[Bc]? = some (.cells #[.slice ua9 (ofS cl).length uc9, .int .i64 ((fr : Nat) : Int), .int .i64 ((fr + xs.length : Nat) : Int)] 63 (0, 0)) := by
        rw [hw10]
        have := TyD.set_heap (i := 0) (.slice ua9 (ofS cl).length uc9) h9.box
        simpa using this
      have r10 : w10.heap[n + 1]? = some (.cells #[.slice none 0 0, .int .i64 0, .int .i64 0] 63 (0, 0)) := by
        rw [hw10]
        exact (Below.heap_setCell w9 ⟨Bc, 0, none⟩ _ (n + 1) (fun e => hne e.symm)).trans r9
      have z0 := later_cells b10 0 _ rfl w10 (Aft.refl _); have z1 := later_cells b10 1 _ rfl w10 (Aft.refl _); have z2 := later_cells b10 2 _ rfl w10 (Aft.refl _)
      have v0 := later_cells r10 0 _ rfl w10 (Aft.refl _); have v1' := later_cells r10 1 _ rfl w10 (Aft.refl _); have v2 := later_cells r10 2 _ rfl w10 (Aft.refl _)
      have g0 : w10.frozen? ⟨n + 1, 0, none⟩ = false := by unfold World.frozen?; rw [r10]; simp
      have g1 : w10.frozen? ⟨n + 1, 1, none⟩ = false := by unfold World.frozen?; rw [r10]; simp
      have g2 : w10.frozen? ⟨n + 1, 2, none⟩ = false := by unfold World.frozen?; rw [r10]; simp
      have HBe : Hid (Below w.heap.size w w10) := by
        show Below _ _ _
        rw [hw10]
        exact (HB0.out.trans (h9.bel.mono HB0.out.size)).setCell (p := ⟨Bc, 0, none⟩) (by have := HBC.out; have := HN.out; show _ ≤ Bc; omega) _
      have HUe : Hid (NewSt w8.heap.size w10 (.slice ua9 (ofS cl).length uc9) (ofS cl)) := by
        show NewSt _ _ _ _
        rw [hw10]
        exact newSt_set hu9 (Nat.lt_of_lt_of_le (Array.getElem?_eq_some_iff.1 H8.out.box).1 (Nat.le_refl _))
      have HW10 := hid hw10
      have HLT8 : Hid (n + 1 < w8.heap.size) := by
        have := (Array.getElem?_eq_some_iff.1 H8.out.box).1
        have := HBC.out
        show _ < _
        omega
      have HFin := hid (fun (wz : World) (h1 : Below w.heap.size w10 wz) (h2 : NewSt w8.heap.size wz (.slice ua9 (ofS cl).length uc9) (ofS cl)) => show PartR w fr xs.length cl (.returned (.agg #[.slice ua9 (ofS cl).length uc9, .int .i64 ((fr : Nat) : Int), .int .i64 ((fr + xs.length : Nat) : Int)])) wz from ⟨_, rfl, newSt_base h2 (by have := HLT8.out; have := HN.out; omega), HBe.out.trans h1⟩)
      obtain ⟨W3, hW3, k3, hB3⟩ := set3_world w10 (n + 1) 63 _ _ _ (.slice ua9 (ofS cl).length uc9) (.int .i64 ((fr : Nat) : Int)) (.int .i64 ((fr + xs.length : Nat) : Int)) r10
      have HF3 := hid (HFin.out W3 (hB3 _ _ (Below.refl _ _) (by have := HN.out; omega)) (by rw [hW3]; exact newSt_set (newSt_set (newSt_set HUe.out HLT8.out) HLT8.out) HLT8.out))
      have HW3 := hid hW3
      have HK3 := hid k3
      clear HSC hb9 H8 hu9 h9 r9 hbx hw10 b10 r10 hne hW3 k3 hB3 HFin HUe
      generalize ofS cl = so at *
      generalize ((fr + xs.length : Nat) : Int) = th at *
      go_upto_region 13 with fail
      rw [← HW10.out]
      go_wp2_with fail
      rw [← HW3.out]
      exact bodyPost_ret (results_cell_row rfl _ _ _ _ _ _ _ rfl HK3.out partUnder rfl partSize) rfl HF3.out
end Go.Proofs.YtkcocgdgmlmflaaDoor.LiC
namespace Go.Proofs.YtkcocgdgmlmflaaDoor.LiD
open Go.RowKit Go.Lib SetP IntO TyM TyP TyB ShM ShP ShA ShB Aft Fresh BitOf FwP FwQ FwR FwO IntG LvM LuM LgD BlkG LiM LiA LiB

set_option maxRecDepth 100000 in
set_option maxHeartbeats 8000000 in
theorem phis_c (bl : List Bx) (va vn : Value) (j : Nat) (tl : List Nat) (N : Nat) (w : World) (hbl : BlksAt w va bl) (hv : IntsAt w vn (ints tl)) (htl : ∀ t ∈ tl, t < bl.length) (h2 : tl.length ≤ 2) (hR : Regs N bl) (hbn : bl.length ≤ 1000) :
    Calls Tryd.prog 39 #[va, .int .i64 (j : Int), vn] w fun e w' => ∃ u, e = .returned u ∧ NewSt w.heap.size w' u (ofS (phL j bl tl)) ∧ Below w.heap.size w w' := by
  obtain ⟨ba, bc, rfl, _⟩ := hbl.slice
  obtain ⟨na, nc, rfl, _⟩ := ints_slice hv
  rw [ints_length] at hv ⊢
  have HBL := hid hbl
  have HV := hid hv
  have HGN := hid (phL_few (b := j) hR htl h2)
  have HGS := hid (fun (i t : Nat) (h : tl[i]? = some t) => phL_succ (b := j) (l := bl) h)
  have HTL := hid htl
  have HXF := hid (fun (t : Nat) (h : t < bl.length) => insAt_facts hR h)
  have HXL := hid (fun (t : Nat) (h : t < bl.length) => insL_few (b := j) hR h)
  have H2 := hid h2
  have HBN := hid hbn
  have hz : Hid (w.ownsRow w.heap.size 3 1 (.slice none 0 0) (phL j bl (tl.take 0)).length (intVals (phL j bl (tl.take 0)))) := ⟨rfl, .inl ⟨rfl, rfl⟩⟩
  have HPE : Hid (phL j bl (tl.take tl.length) = phL j bl tl) := by show _ = _; rw [List.take_length]
  clear hbl hv htl h2 hR hbn
  go_enter Tryd.func39, Tryd.ntmps39
  go_wp2_with fail
  go_loopg [7, 16] tl.length (fun gk u i wr => ∃ k : Nat, k + gk = tl.length ∧ i = .int .i64 k ∧ wr.ownsRow w.heap.size 3 1 u (phL j bl (tl.take k)).length (intVals (phL j bl (tl.take k))) ∧ Aft w wr)
  case atStart => exact ⟨0, by omega, rfl, hz.out, Aft.refl _⟩
  case round =>
    obtain ⟨i, hi, rfl, hown, hA⟩ := hrel
    have HI := hid hi
    have HOWN := hid hown
    obtain ⟨ua, uc, rfl⟩ := own_slice hown
    have HG1 := hid (HGN.out i)
    clear hi hown hz
    by_cases hit : i < tl.length
    · have HIT := hid hit
      obtain ⟨t, ht⟩ := some_at hit
      have HT := hid (HTL.out t (List.mem_of_getElem? ht))
      obtain ⟨nb, no, rfl, n0⟩ := nat_at (HV.out.below hA.below) ht
      obtain ⟨gb, goff, xa, xc, rfl, z0, hins, _⟩ := blk_ins HBL.out HT.out
      have HGS1 := hid (HGS.out i t ht)
      have HXF1 := hid (HXF.out t HT.out)
      have HXL1 := hid (HXL.out t HT.out)
      have c0 := z0 wr hA
      have htb : (t : Int) < (bl.length : Int) := by have := HT.out; omega
      have hit2 : (i : Int) < (tl.length : Int) := by omega
      have hib : i ≤ 9223372036854775806 := by have := H2.out; omega
      have HINS := hid hins
      clear ht z0 hins HGS HXF HXL HV HTL HT hit
      obtain ⟨A, hAe⟩ : ∃ A, A = phL j bl (tl.take i) := ⟨_, rfl⟩
      have HAL2 : Hid (A.length ≤ 80000) := by
        show _ ≤ _
        rw [hAe]
        have := HG1.out
        omega
      have HAE := hid hAe
      rw [← hAe] at HOWN
      rw [← hAe]
      clear hAe HG1
      generalize insAt bl t = xs at *
      obtain ⟨g1, hg1⟩ : ∃ g1 : Nat, g1 = gk := ⟨gk, rfl⟩
      subst hg1
      go_wp2_with fail
      go_loopg [7, 26] xs.length (fun gk u kv wr => ∃ k2 : Nat, k2 + gk = xs.length ∧ kv = .int .i64 k2 ∧ wr.ownsRow w.heap.size 3 1 u (A ++ insL j (xs.take k2)).length (intVals (A ++ insL j (xs.take k2))) ∧ Aft w wr)
      case atStart => exact ⟨0, by omega, rfl, by simpa [insL] using HOWN.out, hA⟩
      case round =>
        obtain ⟨k2, hk2, rfl, hown, hA⟩ := hrel
        have HK2 := hid hk2
        have HOWN := hid hown
        obtain ⟨ua2, uc2, rfl⟩ := own_slice hown
        clear hk2 hown c0 n0
        by_cases hkt : k2 < xs.length
        · have HKT := hid hkt
          obtain ⟨x, hx⟩ := some_at hkt
          obtain ⟨gi, ioff, aa, ac, fa2, fc2, rfl, i0, i1, i2, i3, i4, i5, i6, ja, jf⟩ := ins_later HINS.out hx
          have u0 := i0 wr hA; have u1 := i1 wr hA; have u2 := i2 wr hA; have u3 := i3 wr hA; have u4 := i4 wr hA; have u5 := i5 wr hA; have u6 := i6 wr hA
          have HJA := hid ja
          have HJF := hid jf
          have HIS := hid (insL_succ (b := j) hx)
          have HX := hid (HXF1.out.2 x (List.mem_of_getElem? hx))
          have hk2l : (k2 : Int) < (xs.length : Int) := by omega
          have hk2b : k2 ≤ 9223372036854775806 := by have := HXF1.out.1; omega
          have HBL2 := hid (HXL1.out k2)
          have HPY := hid (fun m u (h22 : x.op = 22) h1 h2 => prL_yes (b := j) (m := m) (x := x) (u := u) h22 h1 h2)
          have HPN := hid (fun m c u h1 h2 h3 => prL_no (b := j) (m := m) (x := x) (c := c) (u := u) h1 h2 h3)
          have HPZ := hid (prL_zero j x)
          have HPL := hid (fun m => prL_len j m x)
          clear hx i0 i1 i2 i3 i4 i5 i6 ja jf hkt
          obtain ⟨xop, xty, xa1, xb1, xn1, xar, xfr⟩ := x
          simp only at *
          obtain ⟨Bq, hBq⟩ : ∃ Bq, Bq = A ++ insL j (xs.take k2) := ⟨_, rfl⟩
          have HBE := hid hBq
          have HBQ : Hid (Bq.length ≤ 90000) := by
            show _ ≤ _
            rw [hBq, List.length_append]
            have := HAL2.out; have := HBL2.out
            omega
          rw [← hBq] at HOWN
          rw [← hBq]
          obtain ⟨W6, hW6⟩ : ∃ W6, W6 = wr.alloc (.cells #[.int .u8 xop, .int .i64 xty, .int .i64 xa1, .int .i64 xb1, .int .i64 xn1, .slice aa xar.length ac, .slice fa2 xfr.length fc2] 48) := ⟨_, rfl⟩
          have hb6 : Below wr.heap.size wr W6 := by rw [hW6]; exact alloc_below _ _
          have k6 : W6.heap[wr.heap.size]? = some (.cells #[.int .u8 xop, .int .i64 xty, .int .i64 xa1, .int .i64 xb1, .int .i64 xn1, .slice aa xar.length ac, .slice fa2 xfr.length fc2] 48 (0, 0)) := by rw [hW6]; exact TyD.alloc_new _ _
          have HO6 := hid (ownsRow_below HOWN.out hb6)
          have HA6 := hid (hA.go hb6)
          have HW6 := hid hW6
          have HK6 := hid k6
          have m5 := later_cells k6 5 _ rfl W6 (Aft.refl _); have m6 := later_cells k6 6 _ rfl W6 (Aft.refl _)
          clear hBq hW6 hb6 k6 HOWN
          obtain ⟨g2, hg2⟩ : ∃ g2 : Nat, g2 = gk := ⟨gk, rfl⟩
          subst hg2
          go_upto_region 8 with fail
          rw [← HW6.out]
          obtain ⟨bx, hbx⟩ : ∃ bx, bx = wr.heap.size := ⟨_, rfl⟩
          rw [← hbx] at HK6 m5 m6
          rw [← hbx]
          clear hbx hA u0 u1 u2 u3 u4 u5 u6 HW6
          go_wp2_with fail
          go_loopg [7, 33] xfr.length (fun gk u mv wr => ∃ m : Nat, m + gk = xfr.length ∧ mv = .int .i64 m ∧ wr.ownsRow w.heap.size 3 1 u (Bq ++ prL j m ⟨xop, xty, xa1, xb1, xn1, xar, xfr⟩).length (intVals (Bq ++ prL j m ⟨xop, xty, xa1, xb1, xn1, xar, xfr⟩)) ∧ Aft w wr ∧ wr.heap[bx]? = some (.cells #[.int .u8 xop, .int .i64 xty, .int .i64 xa1, .int .i64 xb1, .int .i64 xn1, .slice aa xar.length ac, .slice fa2 xfr.length fc2] 48 (0, 0)))
          case atStart => exact ⟨0, by omega, rfl, by rw [HPZ.out, List.append_nil]; exact HO6.out, HA6.out, HK6.out⟩
          case round =>
            obtain ⟨m, hm, rfl, hown, hA3, hbox⟩ := hrel
            have HM := hid hm
            have HPL1 := hid (HPL.out m)
            obtain ⟨C, hC⟩ : ∃ C, C = Bq ++ prL j m ⟨xop, xty, xa1, xb1, xn1, xar, xfr⟩ := ⟨_, rfl⟩
            have HCE := hid hC
            have HCL3 : Hid (C.length ≤ 100000) := by
              show _ ≤ _
              rw [hC, List.length_append]
              have := HBQ.out; have := HPL1.out; have := HX.out.1
              omega
            rw [← hC] at hown
            have HOWN3 := hid hown
            have HBOX := hid hbox
            obtain ⟨ua3, uc3, rfl⟩ := own_slice hown
            clear hm hown HO6 HA6 HK6 hC HPL1 m5 m6
            by_cases hmt : m < xfr.length
            · have HMT := hid hmt
              have h22 : xop = 22 := by
                refine Classical.byContradiction fun e => ?_
                have := HX.out.2.2.2 e
                rw [this] at hmt
                exact absurd hmt (by simp)
              have hal := HX.out.2.2.1 h22
              have hma : m < xar.length := by omega
              obtain ⟨cf, hcf⟩ := some_at hmt
              obtain ⟨ca, hca⟩ := some_at hma
              obtain ⟨bf, of, rfl, cf0⟩ := int_at (HJF.out wr hA3) hcf
              obtain ⟨ba, oa, rfl, ca0⟩ := int_at (HJA.out wr hA3) hca
              have HPN1 := hid (HPN.out m cf ca hcf hca)
              have HPY1 := hid (fun (e : cf = (j : Int)) => HPY.out m ca h22 (e ▸ hcf) hca)
              have m5 := later_cells hbox 5 _ rfl wr (Aft.refl _)
              have hmb : m ≤ 9223372036854775806 := by have := HX.out.1; omega
              have hml : (m : Int) < (xfr.length : Int) := by omega
              have hml2 : (m : Int) < (xar.length : Int) := by omega
              clear hcf hca h22 hal HPY HPN hbox hmt hma
              by_cases hcj : cf = (j : Int)
              · have HP3 := hid (HPY1.out hcj)
                have ecj : (cf == (j : Int)) = true := by simpa using hcj
                clear hcj HPY1 HPN1
                have HO4 := hid (HOWN3.out.alloc (.cells #[.int .i64 ca] 3))
                have HI4 := hid (ints_one (w := wr.alloc (.cells #[.int .i64 ca] 3)) (b := wr.heap.size) (n := ca) (cell_new _ _ _ _ rfl) (size_new _ _ _ rfl))
                have hA4 := hA3.alloc (.cells #[.int .i64 ca] 3)
                have hsz4 : w.heap.size ≤ (wr.alloc (.cells #[.int .i64 ca] 3)).heap.size := hA4.size
                have hn4 := HCL3.out
                go_wp2_with (at_builtin; refine wpList_append_ints rfl (.tmp 41) (.tmp 47) rfl w.heap.size (.slice ua3 C.length uc3) rfl C.length (intVals C) HO4.out hn4 (.slice (some ⟨wr.heap.size, 0, none⟩) 1 1) [ca] rfl HI4.out (by simp) hsz4 ?_)
                intro v9 w9 hown9 hgr9
                have HA9 : Hid (Aft w w9) := by
                  show Aft w w9
                  exact hA4.below.grown hgr9 hsz4 fun q hq => (HO4.out.lt q hq).1
                have HB9 : Hid (w9.heap[bx]? = some (.cells #[.int .u8 xop, .int .i64 xty, .int .i64 xa1, .int .i64 xb1, .int .i64 xn1, .slice (some ⟨ba, oa, none⟩) xar.length ac, .slice (some ⟨bf, of, none⟩) xfr.length fc2] 48 (0, 0))) := by
                  have h1 := (alloc_below wr (.cells #[.int .i64 ca] 3)).block bx (Array.getElem?_eq_some_iff.1 HBOX.out).1
                  have h2 := h1.trans HBOX.out
                  exact (hgr9.block bx (Array.getElem?_eq_some_iff.1 h2).1 (fun e => row_box HO4.out h2 (by decide) e.symm)).trans h2
                have HO9 : Hid (w9.ownsRow w.heap.size 3 1 v9 (Bq ++ prL j (m + 1) ⟨xop, xty, xa1, xb1, xn1, xar, xfr⟩).length (intVals (Bq ++ prL j (m + 1) ⟨xop, xty, xa1, xb1, xn1, xar, xfr⟩))) := by
                  show World.ownsRow _ _ _ _ _ _ _
                  rw [HP3.out, ← List.append_assoc, ← HCE.out, intVals_append, List.length_append]
                  exact hown9
                obtain ⟨xa9, xc9, rfl⟩ := own_slice hown9
                clear hown9 hgr9 HO4 HI4 hsz4 hn4 hA4 m5
                go_wp2
                go_roundg (gk - 1)
                case measure => have := HM.out; have := HMT.out; omega
                case rel => exact ⟨m + 1, by have := HM.out; have := HMT.out; omega, by go_num, HO9.out, HA9.out, HB9.out⟩
              · have HP3 := hid (HPN1.out hcj)
                have ecj : (cf == (j : Int)) = false := by simpa using hcj
                clear hcj HPY1 HPN1
                have HA9 := hid hA3
                go_wp2
                go_roundg (gk - 1)
                case measure => have := HM.out; have := HMT.out; omega
                case rel => exact ⟨m + 1, by have := HM.out; have := HMT.out; omega, by go_num, by rw [HP3.out, ← HCE.out]; exact HOWN3.out, HA9.out, HBOX.out⟩
            · obtain rfl : m = xfr.length := by have := HM.out; omega
              have HO9 : Hid (wr.ownsRow w.heap.size 3 1 (.slice ua3 C.length uc3) (A ++ insL j (xs.take (k2 + 1))).length (intVals (A ++ insL j (xs.take (k2 + 1))))) := by
                show World.ownsRow _ _ _ _ _ _ _
                have e : A ++ insL j (xs.take (k2 + 1)) = C := by rw [HIS.out, ← List.append_assoc, ← HBE.out, HCE.out]
                rw [e]
                exact HOWN3.out
              have HA9 := hid hA3
              clear hmt HOWN3 hbox
              go_wp2
              go_roundg (g2 - 1)
              case measure => have := HK2.out; have := HKT.out; omega
              case rel => exact ⟨k2 + 1, by have := HK2.out; have := HKT.out; omega, by go_num, HO9.out, HA9.out⟩
        · obtain rfl : k2 = xs.length := by have := HK2.out; omega
          have HO9 : Hid (wr.ownsRow w.heap.size 3 1 (.slice ua2 (A ++ insL j (xs.take xs.length)).length uc2) (phL j bl (tl.take (i + 1))).length (intVals (phL j bl (tl.take (i + 1))))) := by
            show World.ownsRow _ _ _ _ _ _ _
            have e : phL j bl (tl.take (i + 1)) = A ++ insL j (xs.take xs.length) := by rw [HGS1.out, HAE.out, List.take_length]
            rw [e]
            exact HOWN.out
          have HA9 := hid hA
          clear hkt HOWN
          go_wp2
          go_roundg (g1 - 1)
          case measure => have := HI.out; have := HIT.out; omega
          case rel => exact ⟨i + 1, by have := HI.out; have := HIT.out; omega, by go_num, HO9.out, HA9.out⟩
    · obtain rfl : i = tl.length := by have := HI.out; omega
      rw [HPE.out] at HOWN HG1
      have HSC := hid (set_c _ _ wr (intsAt_of_owns HOWN.out (by have := HG1.out; omega)))
      have HFIN := hid hA
      rw [HPE.out]
      clear hit HOWN hA HGS HGN HV
      go_wp2_with fail
      refine HSC.out.mono ?_
      rintro e w2 ⟨u2, rfl, hu2, hb2⟩
      obtain ⟨ua9, uc9, rfl⟩ := RwO.own_form hu2
      have HU := hid (LiC.newSt_base hu2 HFIN.out.size)
      have HE := hid (HFIN.out.go hb2)
      clear HSC hu2 hb2
      go_wp2
      go_ret
      exact ⟨_, rfl, HU.out, HE.out⟩
end Go.Proofs.YtkcocgdgmlmflaaDoor.LiD
namespace Go.Proofs.YtkcocgdgmlmflaaDoor.ShL
open Go.RowKit Go.Lib SetP IntO TyM TyP TyB TyC ShM ShP ShA ShB ShC ShE ShQ ShF ShG ShH ShI ShJ ShK

set_option maxRecDepth 100000 in
set_option maxHeartbeats 16000000 in
theorem reg_calls (p : Px) (f b i : Int) (v : Value) (w : World) (hp : PrAt w v p) (htab : Tab w) (hs : Small p) (hok : POk p) :
    Calls Tryd.prog 16 #[v, .int .i64 f, .int .i64 b, .int .i64 i] w (TwoR (regN p f b i) (regE p f b i) w) := by
  have hp0 := hp
  obtain ⟨vt, vf, rfl, ht, hf⟩ := hp
  have hb0 := alloc_below w (.cells #[vt, vf] 29)
  have HC := hid (find_calls p f _ _ (hp0.below hb0) (htab.on hb0) hs hok)
  have HB0 := hid hb0
  have HPE : Hid (regE p f b i = if findP p f ≠ 0 then findP p f else if (0 ≤ b ∧ b < (fnP p f).blocks.length) ∧ 0 ≤ i ∧ i < insN (fnP p f).blocks b then 0 else 2) := rfl
  have HPN : Hid (regN p f b i = if regE p f b i ≠ 0 then (0 : Int) else ((parOf p.types (fnP p f).sig + manyB ((fnP p f).blocks.take b.toNat) : Nat) : Int) + i) := rfl
  generalize regN p f b i = pn at *
  generalize regE p f b i = pe at *
  by_cases hz : findP p f = 0
  rotate_left
  · rw [if_pos hz] at HPE
    rw [HPE.out, if_pos hz] at HPN
    have e0 : (findP p f != 0) = true := by simpa using hz
    obtain ⟨ta, tc, rfl⟩ := ht.slice
    obtain ⟨fa, fc, rfl, hfl⟩ := hf.slice
    rw [HPE.out, HPN.out]
    clear ht hf htab hs hok hp0 hb0 HPE HPN
    generalize findP p f = fe at *
    generalize p.types.length = n1 at *
    generalize p.funcs.length = n2 at *
    go_enter Tryd.func16, Tryd.ntmps16
    go_wp2_with fail
    refine HC.out.mono ?_
    rintro e w1 ⟨rfl, hb1⟩
    have hbe := HB0.out.trans (hb1.mono HB0.out.size)
    clear HC hb1 hz
    go_wp2
    go_ret2
    exact ⟨rfl, hbe⟩
  rw [if_neg (fun e => e hz)] at HPE
  rw [hz] at HC
  obtain ⟨k, x, h1⟩ := has1 hz
  rw [fn_eq h1] at HPE HPN
  obtain ⟨fb, foff, fcap, vb, rfl, hfb, c0, c1, hbl⟩ := fn_at hf h1
  have hpl := par_le hs.parts h1.sig0 h1.sig1
  have hmany := h1.many
  have HPA := hid (fun wx (hx : Below w.heap.size w wx) => params_calls p.types x vt (.slice (some ⟨fb, foff, none⟩) p.funcs.length fcap) vb wx (ht.below hx) ⟨_, _, _, rfl⟩ h1.sig0 h1.sig1 (hbl.below blkStays hx).slice)
  have HB1 := hid (fun (m n : Int) (wx : World) => ShE.below_calls m (.slice (some ⟨wx.heap.size, 0, none⟩) 1 1) [n] (wx.alloc (.cells #[.int .i64 n] 3)) (ints_one (cell_new _ _ _ _ rfl) (size_new _ _ _ rfl)))
  obtain ⟨ta, tc, rfl⟩ := ht.slice
  obtain ⟨ba, bc, rfl, hbll⟩ := hbl.slice
  have HIN := hid (fun (j : Nat) (hj : j ≤ x.blocks.length) wx (hx : Below w.heap.size w wx) => instructions_calls (.slice ba j bc) (x.blocks.take j) wx ((hbl.below blkStays hx).take j hj) (by have := manyB_le x.blocks j; omega))
  have HBLK := hid hbl
  have hcap := hbl.cap
  have hkl : (k : Int) < p.funcs.length := by have := h1.lt; omega
  have hk0 : (0 : Int) ≤ k := by omega
  have hke := h1.eq
  have HLT := hid hfb
  have HC0 := hid c0
  have HC1 := hid c1
  have HMANY : Hid (manyB x.blocks ≤ 128) := hmany
  have HPL : Hid (parOf p.types x.sig ≤ 20000) := hpl
  have HML := hid (manyB_le x.blocks)
  have HMM := hid (fun j (h : j < x.blocks.length) => manyB_mem h)
  clear ht hf htab hs hok hp0 hb0 hz hbl h1 c0 c1 hmany hpl
  subst hke
  generalize parOf p.types x.sig = par at *
  generalize p.types.length = n1 at *
  generalize p.funcs.length = n2 at *
  cases hd : decide (0 ≤ b ∧ b < (x.blocks.length : Int)) with
  | false =>
    have HBL := hid (fun wx => HB1.out x.blocks.length b wx)
    simp only [low_one, hd] at HBL
    have HFE : Hid (pe = 2) := by show _ = _; rw [HPE.out, if_neg (fun h => (of_decide_eq_false hd) h.1)]
    have HFN : Hid (pn = 0) := by show _ = _; rw [HPN.out, HFE.out]; rfl
    clear HPE HPN HPA HIN HB1 HBLK HML HMM hd
    generalize x.blocks.length = nl at *
    go_enter Tryd.func16, Tryd.ntmps16
    go_wp2_with fail
    refine HC.out.mono ?_
    rintro e w3 ⟨rfl, hb1⟩
    have hbe := HB0.out.trans (hb1.mono HB0.out.size)
    obtain ⟨f1, _, s1, k1⟩ := copyF (alloc_new _ _) hb1 (by simp only [World.size_alloc]; omega)
    have p1 := f1 1 (by simp)
    simp only [List.getElem_toArray, List.getElem_cons_succ, List.getElem_cons_zero] at p1
    have d1 := (hbe.cell (p := ⟨fb, foff + k * 2 + 1, none⟩) HLT.out).trans HC1.out
    have HB2 := hid (HBL.out w3)
    clear HC hb1 f1 k1 HBL
    go_wp2_with fail
    refine HB2.out.mono ?_
    rintro e w4 ⟨rfl, hb4⟩
    have hbe4 := (hbe.alloc hbe.size (.cells #[.int .i64 b] 3)).trans (hb4.mono (hbe.alloc hbe.size _).size)
    clear HB2 hb4
    go_wp2
    go_ret2
    exact ⟨by rw [HFE.out, HFN.out]; rfl, hbe4⟩
  | true =>
    have hbr := of_decide_eq_true hd
    obtain ⟨j, rfl⟩ : ∃ j : Nat, b = j := ⟨b.toNat, by omega⟩
    have hjl : j < x.blocks.length := by omega
    have HBL := hid (fun wx => HB1.out x.blocks.length j wx)
    simp only [low_one, hd] at HBL
    obtain ⟨bb, boff, rfl, hbb, vi, b0, b1, b2, b3, b4, hins⟩ := HBLK.out.at j hjl
    obtain ⟨ia, ic, rfl, _⟩ := hins.slice
    rw [insN_at hjl, Int.toNat_natCast] at *
    have hil : x.blocks[j].ins.length ≤ 20000 := by have := HMM.out j hjl; have := HMANY.out; omega
    have HIB := hid hbb
    have HIC := hid b0
    have HIN1 := hid (HIN.out j (by omega))
    have hm1 : manyB (x.blocks.take j) ≤ 128 := by have := HML.out j; have := HMANY.out; omega
    clear hd b1 b2 b3 b4 hins hbb b0 HBLK HMM HML HIN
    generalize x.blocks[j].ins.length = il at *
    generalize manyB (x.blocks.take j) = mj at *
    have HBR := hid hbr
    have hjn : (j : Int) < x.blocks.length := by omega
    have hj0 : (0 : Int) ≤ j := by omega
    have hjc : (j : Int) ≤ bc := by omega
    have HB1' := hid (fun wx => HB1.out il i wx)
    simp only [low_one] at HB1'
    clear HB1 hbr
    generalize hnl : x.blocks.length = nl at *
    clear hnl
    cases hd2 : decide (0 ≤ i ∧ i < (il : Int)) with
    | false =>
      rw [hd2] at HB1'
      have HFE : Hid (pe = 2) := by show _ = _; rw [HPE.out, if_neg (fun h => (of_decide_eq_false hd2) h.2)]
      have HFN : Hid (pn = 0) := by show _ = _; rw [HPN.out, HFE.out]; rfl
      clear HPE HPN HPA HIN1 hd2
      go_enter Tryd.func16, Tryd.ntmps16
      go_wp2_with fail
      refine HC.out.mono ?_
      rintro e w3 ⟨rfl, hb1⟩
      have hbe := HB0.out.trans (hb1.mono HB0.out.size)
      obtain ⟨f1, _, s1, k1⟩ := copyF (alloc_new _ _) hb1 (by simp only [World.size_alloc]; omega)
      have p1 := f1 1 (by simp)
      simp only [List.getElem_toArray, List.getElem_cons_succ, List.getElem_cons_zero] at p1
      have d1 := (hbe.cell (p := ⟨fb, foff + k * 2 + 1, none⟩) HLT.out).trans HC1.out
      have HB2 := hid (HBL.out w3)
      clear HC hb1 f1 k1 HBL
      go_wp2_with fail
      refine HB2.out.mono ?_
      rintro e w4 ⟨rfl, hb4⟩
      have hbe4 := (hbe.alloc hbe.size (.cells #[.int .i64 j] 3)).trans (hb4.mono (hbe.alloc hbe.size _).size)
      have i0 := (hbe4.cell (p := ⟨bb, boff + j * 5, none⟩) HIB.out).trans HIC.out
      have HB3 := hid (HB1'.out w4)
      clear HB2 hb4 hbe p1 d1 HB1'
      go_wp2_with fail
      refine HB3.out.mono ?_
      rintro e w5 ⟨rfl, hb5⟩
      have hbe5 := (hbe4.alloc hbe4.size (.cells #[.int .i64 i] 3)).trans (hb5.mono (hbe4.alloc hbe4.size _).size)
      clear HB3 hb5
      go_wp2
      go_ret2
      exact ⟨by rw [HFE.out, HFN.out]; rfl, hbe5⟩
    | true =>
      rw [hd2] at HB1'
      have hir := of_decide_eq_true hd2
      have HFE : Hid (pe = 0) := by show _ = _; rw [HPE.out, if_pos ⟨HBR.out, hir⟩]
      have HFN : Hid (pn = ((par + mj : Nat) : Int) + i) := by show _ = _; rw [HPN.out, HFE.out]; rfl
      have hw1 : IntKind.i64.wrap ((par : Int) + mj) = ((par + mj : Nat) : Int) := sum_wrap (by have := HPL.out; omega)
      have hw2 : IntKind.i64.wrap ((par : Int) + mj + i) = ((par + mj : Nat) : Int) + i := by rw [IntWalk.i64_in _ (by have := HPL.out; omega)]; omega
      have HW1 := hid hw1
      have HW2 := hid hw2
      clear HPE HPN hd2 hw1 hw2 hir
      go_enter Tryd.func16, Tryd.ntmps16
      go_wp2_with fail
      refine HC.out.mono ?_
      rintro e w3 ⟨rfl, hb1⟩
      have hbe := HB0.out.trans (hb1.mono HB0.out.size)
      obtain ⟨f1, _, s1, k1⟩ := copyF (alloc_new _ _) hb1 (by simp only [World.size_alloc]; omega)
      have HK1 := hid k1
      have p1 := f1 1 (by simp)
      simp only [List.getElem_toArray, List.getElem_cons_succ, List.getElem_cons_zero] at p1
      have d1 := (hbe.cell (p := ⟨fb, foff + k * 2 + 1, none⟩) HLT.out).trans HC1.out
      have HB2 := hid (HBL.out w3)
      clear HC hb1 f1 k1 HBL
      go_wp2_with fail
      refine HB2.out.mono ?_
      rintro e w4 ⟨rfl, hb4⟩
      have hb34 : Below w3.heap.size w3 w4 := (alloc_below w3 _).trans (hb4.mono (alloc_below w3 _).size)
      have hbe4 := hbe.trans (hb34.mono hbe.size)
      have HK4 := hid (keepBlk hb34 HK1.out)
      have i0 := (hbe4.cell (p := ⟨bb, boff + j * 5, none⟩) HIB.out).trans HIC.out
      have HB3 := hid (HB1'.out w4)
      clear HB2 hb4 hbe p1 d1 HB1' hb34 HK1 s1
      go_wp2_with fail
      refine HB3.out.mono ?_
      rintro e w5 ⟨rfl, hb5⟩
      have hb45 : Below w4.heap.size w4 w5 := (alloc_below w4 _).trans (hb5.mono (alloc_below w4 _).size)
      have hbe5 := hbe4.trans (hb45.mono hbe4.size)
      have HK5 := hid (keepBlk hb45 HK4.out)
      clear HB3 hb5 hb45 HK4 i0 hbe4
      obtain ⟨f1, _, s1, _⟩ := copyF HK5.out (Below.refl w5.heap.size w5) (Array.getElem?_eq_some_iff.1 HK5.out).1
      have p0 := f1 0 (by simp); have p1 := f1 1 (by simp)
      simp only [List.getElem_toArray, List.getElem_cons_succ, List.getElem_cons_zero] at p0 p1
      have d0 := (hbe5.cell (p := ⟨fb, foff + k * 2, none⟩) HLT.out).trans HC0.out
      have d1 := (hbe5.cell (p := ⟨fb, foff + k * 2 + 1, none⟩) HLT.out).trans HC1.out
      have s2 := Nat.lt_of_lt_of_le HLT.out hbe5.size
      clear f1
      go_wp2_with fail
      have HPA1 := hid (HPA.out w5.drew hbe5.drew)
      have HOS := hid (old_start w5)
      have HBd : Hid (Below w.heap.size w w5.drew) := hbe5.drew
      clear HPA hbe5
      have hwr := HW1.out
      have hwr2 := HW2.out
      generalize hn5 : w5.heap.size = n5 at *
      have HN5 := hid hn5
      clear hn5
      have hs5 : n5 ≤ w5.heap.size := Nat.le_of_eq HN5.out.symm
      go_region_held3 (fun w' => n5 ≤ w'.heap.size ∧ ∀ b o, b < n5 → w'.cell? ⟨b, o, none⟩ = w5.cell? ⟨b, o, none⟩)
        (first | with_reducible exact old_call hb7 (old_call hb6 HOS.out) | with_reducible exact old_call hb6 HOS.out | with_reducible exact HOS.out)
        (first | (go_at_call 35; (with_reducible refine HPA1.out.mono ?_); rintro e w6 ⟨rfl, hb6⟩; have B6 := HBd.out.trans (hb6.mono HBd.out.size)) | (go_at_call 36; (with_reducible refine (HIN1.out w6 B6).mono ?_); rintro e w7 ⟨rfl, hb7⟩; have B7 := B6.trans (hb7.mono B6.size)))
      all_goals
        go_wp2
        go_ret2
        exact ⟨by rw [HFE.out, HFN.out]; rfl, B7⟩
end Go.Proofs.YtkcocgdgmlmflaaDoor.ShL
namespace Go.Proofs.YtkcocgdgmlmflaaDoor.LgX
open Go.RowKit Go.Lib SetP IntO TyM TyP TyB TyC ShM ShP ShA ShB ShC ShE ShI ShJ Aft FwM FwC FwP FwQ FwR FwK FvA FvB FdQ LvM LvQ LuM LgC ShH ShK ShL ShU ShW IntG BlkG

def winV : Option Bool → Int
  | some true => 1
  | some false => -1
  | none => 0
/-- what becomes of it on from a place -/
def WinAt (ans : Int) (own : Nat → Nat → Nat) (r j : Nat) (en : Ex) (xs : List Ix) (i : Nat) : Prop := ans = winV (within own r j en i (xs.drop i))
theorem win_read {ans : Int} {own : Nat → Nat → Nat} {r j i : Nat} {en : Ex} {xs : List Ix} {x : Ix} (h : WinAt ans own r j en xs i) (hx : xs[i]? = some x) (hr : readsI r x = true) : ans = 1 := by
  obtain ⟨hi, rfl⟩ := List.getElem?_eq_some_iff.1 hx
  unfold WinAt at h
  rw [List.drop_eq_getElem_cons hi] at h
  unfold within at h
  rw [if_pos hr] at h
  exact h
theorem win_own {ans : Int} {own : Nat → Nat → Nat} {r j i : Nat} {en : Ex} {xs : List Ix} {x : Ix} (h : WinAt ans own r j en xs i) (hx : xs[i]? = some x) (hr : readsI r x = false) (ho : own j i = r) : ans = -1 := by
  obtain ⟨hi, rfl⟩ := List.getElem?_eq_some_iff.1 hx
  unfold WinAt at h
  rw [List.drop_eq_getElem_cons hi] at h
  unfold within at h
  rw [if_neg (by rw [hr]; simp), if_pos ho] at h
  exact h
theorem win_next {ans : Int} {own : Nat → Nat → Nat} {r j i : Nat} {en : Ex} {xs : List Ix} {x : Ix} (h : WinAt ans own r j en xs i) (hx : xs[i]? = some x) (hr : readsI r x = false) (ho : own j i ≠ r) : WinAt ans own r j en xs (i + 1) := by
  obtain ⟨hi, rfl⟩ := List.getElem?_eq_some_iff.1 hx
  unfold WinAt at h ⊢
  rw [List.drop_eq_getElem_cons hi] at h
  unfold within at h
  rw [if_neg (by rw [hr]; simp), if_neg ho] at h
  exact h
theorem win_end {ans : Int} {own : Nat → Nat → Nat} {r j : Nat} {en : Ex} {xs : List Ix} (h : WinAt ans own r j en xs xs.length) : ans = if (r : Int) ∈ endsOf en then 1 else 0 := by
  unfold WinAt at h
  rw [List.drop_length] at h
  unfold within at h
  rw [h]
  split <;> rfl
theorem reads_phi {r : Nat} {x : Ix} (h : x.op = 22) : readsI r x = false := by unfold readsI; simp [h]
theorem reads_uses {r : Nat} {x : Ix} (h : x.op ≠ 22) : readsI r x = decide ((r : Int) ∈ usesOf x) := by unfold readsI; simp [h]
theorem reg_at {p : Px} {k : Nat} {x : Fx} (hz : findP p k = 0) (hx : Has1 p k k x) {j i : Nat} (hj : j < x.blocks.length) (hi : i < (insAt x.blocks j).length) : regE p k j i = 0 ∧ regN p k j i = (ownN (parOf p.types x.sig) x.blocks j i : Int) := by
  have hsg : (ShK.fnP p k).sig = x.sig ∧ (ShK.fnP p k).blocks = x.blocks := by
    unfold ShK.fnP
    rw [Int.toNat_natCast, hx.at_]
    exact ⟨rfl, rfl⟩
  have hl : insN x.blocks (j : Int) = (insAt x.blocks j).length := by
    rw [insN_at hj]
    unfold insAt
    rw [List.getElem?_eq_getElem hj]
    rfl
  have hre : regE p k j i = 0 := by
    unfold regE
    rw [if_neg (fun e => e hz), hsg.2, hl, if_pos (by omega)]
  refine ⟨hre, ?_⟩
  unfold regN
  rw [if_neg (fun e => e hre), hsg.1, hsg.2, Int.toNat_natCast]
  unfold ownN
  omega

set_option maxRecDepth 100000 in
set_option maxHeartbeats 16000000 in
theorem within_calls (p : Px) (k : Nat) (x : Fx) (v : Value) (w : World) (hp : PrAt w v p) (ht : Tab w) (hs : Small p) (hok : POk p) (hz : findP p k = 0) (hx : Has1 p k k x) (r j pl : Nat) (hj : j < x.blocks.length) (hpl : pl ≤ (insAt x.blocks j).length) :
    Calls Tryd.prog 19 #[v, .int .i64 (k : Int), .int .i64 (r : Int), .int .i64 (j : Int), .int .i64 (pl : Int)] w (NumR (winV (within (ownN (parOf p.types x.sig) x.blocks) r j (endAt x.blocks j) pl ((insAt x.blocks j).drop pl))) w) := by
  have hp0 := hp
  obtain ⟨vt, vf, rfl, hvt, hvf⟩ := hp
  obtain ⟨W, hW⟩ : ∃ W, W = w.alloc (.cells #[vt, vf] 29) := ⟨_, rfl⟩
  have hbW : Below w.heap.size w W := by rw [hW]; exact alloc_below _ _
  have k1 : W.heap[w.heap.size]? = some (.cells #[vt, vf] 29 (0, 0)) := by rw [hW]; exact alloc_new _ _
  have HP := hid (hp0.below hbW)
  have HT := hid (ht.on hbW)
  have hvfW := hvf.below fnStays hbW
  obtain ⟨ta, tc, rfl⟩ := hvt.slice
  obtain ⟨fa, fc, rfl, _⟩ := hvf.slice
  obtain ⟨fb, foff, fcap, ao, bc, he, d0, d1, hbl⟩ := fn_later hvfW hx
  cases he
  obtain ⟨gb, goff, xa, xc, rfl, z0, hins, z1, z2, z3, z4⟩ := blk_ins hbl hj
  have hxm := List.mem_of_getElem? hx.at_
  have hR := regs_of (find_zero hz).1 hok hxm
  have hbm : x.blocks[j] ∈ x.blocks := List.getElem_mem hj
  have eX : insAt x.blocks j = x.blocks[j].ins := by unfold insAt; rw [List.getElem?_eq_getElem hj]; rfl
  have eE : endAt x.blocks j = x.blocks[j].en := by unfold endAt; rw [List.getElem?_eq_getElem hj]; rfl
  have HOI : Hid (∀ y ∈ insAt x.blocks j, (0 ≤ y.op ∧ y.op ≤ 255) ∧ y.args.length ≤ 16) := fun y hy => by
    rw [eX] at hy
    exact ⟨(hok x hxm _ hbm).2 y hy, hR.few _ hbm y hy⟩
  have HOE : Hid (0 ≤ (endAt x.blocks j).kind ∧ (endAt x.blocks j).kind ≤ 255) := by
    show _ ∧ _
    rw [eE]
    exact (hok x hxm _ hbm).1
  have HIL : Hid ((insAt x.blocks j).length ≤ 128) := by
    show _ ≤ _
    rw [eX]
    exact Nat.le_trans (fewer hbm) hR.many
  have l0 : ∀ w', Aft W w' → w'.cell? ⟨w.heap.size, 0, none⟩ = some (.slice ta p.types.length tc) := later_cells k1 0 _ rfl
  have l1 : ∀ w', Aft W w' → w'.cell? ⟨w.heap.size, 1, none⟩ = some (.slice (some ⟨fb, foff, none⟩) p.funcs.length fc) := later_cells k1 1 _ rfl
  have HBW := hid hbW
  have HW := hid hW
  have HOK := hid hok
  have HS := hid hs
  have HZ := hid hz
  have HRG := hid (fun (i : Nat) (hi : i < (insAt x.blocks j).length) => reg_at hz hx hj hi)
  have hkl := hx.lt
  have hjl : (j : Int) < (x.blocks.length : Int) := by omega
  have HANS : Hid (WinAt (winV (within (ownN (parOf p.types x.sig) x.blocks) r j (endAt x.blocks j) pl ((insAt x.blocks j).drop pl))) (ownN (parOf p.types x.sig) x.blocks) r j (endAt x.blocks j) (insAt x.blocks j) pl) := rfl
  have HINS := hid hins
  have HPL := hid hpl
  have h0 := Aft.refl W
  clear hvt hvf hvfW hp0 hbW hW k1 ht hs hok hz hx hxm hR hbm eX eE hbl hins hpl hj d0
  generalize winV (within (ownN (parOf p.types x.sig) x.blocks) r j (endAt x.blocks j) pl ((insAt x.blocks j).drop pl)) = ans at *
  generalize ownN (parOf p.types x.sig) x.blocks = own at *
  generalize insAt x.blocks j = xs at *
  generalize endAt x.blocks j = en at *
  generalize x.blocks.length = nb at *
  obtain ⟨ek, ea, et, ee⟩ := en
  simp only at *
  obtain ⟨W5, hW5⟩ : ∃ W5, W5 = W.alloc (.cells #[.slice xa xs.length xc, .int .u8 ek, .int .i64 ea, .int .i64 et, .int .i64 ee] 41) := ⟨_, rfl⟩
  have k5 : W5.heap[W.heap.size]? = some (.cells #[.slice xa xs.length xc, .int .u8 ek, .int .i64 ea, .int .i64 et, .int .i64 ee] 41 (0, 0)) := by rw [hW5]; exact TyD.alloc_new _ _
  have m0 := later_cells k5 0 _ rfl; have m1 := later_cells k5 1 _ rfl; have m2 := later_cells k5 2 _ rfl; have m3 := later_cells k5 3 _ rfl; have m4 := later_cells k5 4 _ rfl
  have h5 : Aft W W5 := by rw [hW5]; exact h0.alloc _
  have HW5 := hid hW5
  have hWs : W.heap.size = w.heap.size + 1 := by rw [HW.out]; simp
  clear hW5 k5
  go_enter Tryd.func19, Tryd.ntmps19
  go_upto_region 1 with fail
  rw [← HW.out]
  go_upto_region 2 with fail
  rw [← HW5.out]
  rw [hWs] at m0 m1 m2 m3 m4
  have r0 : ∀ w', Aft W5 w' → w'.cell? ⟨w.heap.size, 0, none⟩ = some (.slice ta p.types.length tc) := fun w' h => l0 w' (h5.trans h)
  have r1 : ∀ w', Aft W5 w' → w'.cell? ⟨w.heap.size, 1, none⟩ = some (.slice (some ⟨fb, foff, none⟩) p.funcs.length fc) := fun w' h => l1 w' (h5.trans h)
  have H5 := hid h5
  clear l0 l1 d1 z0 z1 z2 z3 z4 h0 h5 hWs
  go_wp2_with fail
  go_loopg [12] (xs.length - pl) (fun gk iv wr => ∃ i : Nat, i + gk = xs.length ∧ iv = .int .i64 i ∧ WinAt ans own r j ⟨ek, ea, et, ee⟩ xs i ∧ Aft W5 wr)
  case atStart => exact ⟨pl, by have := HPL.out; omega, rfl, HANS.out, Aft.refl _⟩
  case round =>
    obtain ⟨i, hi, rfl, hwin, hA⟩ := hrel
    have HI := hid hi
    have HWIN := hid hwin
    clear hi hwin HANS
    by_cases hit : i < xs.length
    · have HIT := hid hit
      obtain ⟨y, hy⟩ := some_at hit
      obtain ⟨gi, ioff, aa, ac, fa2, fc2, rfl, i0, i1, i2, i3, i4, i5, i6, ja, jf⟩ := ins_later HINS.out hy
      have hwr : Aft W wr := H5.out.trans hA
      have hio := HOI.out y (List.mem_of_getElem? hy)
      have c0 := i0 wr hwr; have c1 := i1 wr hwr; have c2 := i2 wr hwr; have c3 := i3 wr hwr; have c4 := i4 wr hwr; have c5 := i5 wr hwr; have c6 := i6 wr hwr
      have HUC := hid (uses_calls y _ (.slice fa2 y.frm.length fc2) wr hio.1.1 hio.1.2 (HT.out.on hwr.below) (ja wr hwr) (by omega) ⟨_, _, _, rfl⟩)
      have HUL := hid (uses_len hio.2)
      have hrg := HRG.out i hit
      have HRC := hid (fun wx (h : Aft W5 wx) => reg_calls p k j i _ wx (HP.out.below (H5.out.trans h).below) (HT.out.on (H5.out.trans h).below) HS.out HOK.out)
      rw [hrg.1, hrg.2] at HRC
      have HW1 := hid (fun hr => win_read HWIN.out hy hr)
      have HW2 := hid (fun hr ho => win_own HWIN.out hy hr ho)
      have HW3 := hid (fun hr ho => win_next HWIN.out hy hr ho)
      have HRP := hid (reads_phi (r := r) (x := y))
      have HRU := hid (reads_uses (r := r) (x := y))
      have hil : (i : Int) < (xs.length : Int) := by omega
      have hib : i ≤ 9223372036854775806 := by have := HIL.out; omega
      clear hrg hio hy i0 i1 i2 i3 i4 i5 i6 ja jf
      generalize own j i = o at *
      obtain ⟨yop, yty, ya, yb, yn, yar, yfr⟩ := y
      simp only at *
      by_cases h22 : yop = 22
      · have e22 : (yop != 22) = false := by simp [h22]
        have HRF := hid (HRP.out h22)
        clear h22 HRP HRU HUC HW1
        go_wp2_with fail
        refine (HRC.out wr hA).mono ?_
        rintro e w6 ⟨rfl, hb6⟩
        have h6 := hA.go hb6
        have H6 := hid h6
        clear HRC hb6 hA
        by_cases ho : o = r
        · have eo : ((o : Int) == (r : Int)) = true := by simp [ho]
          have HX := hid (HW2.out HRF.out ho)
          clear ho HW2 HW3
          go_wp2
          go_ret
          exact ⟨by rw [HX.out]; rfl, (H5.out.trans H6.out).out HBW.out⟩
        · have eo : ((o : Int) == (r : Int)) = false := by simp; omega
          have HX := hid (HW3.out HRF.out ho)
          clear ho HW2 HW3
          go_wp2
          go_roundg (gk - 1)
          case measure => have := HI.out; have := HIT.out; omega
          case rel => exact ⟨i + 1, by have := HI.out; have := HIT.out; omega, by go_num, HX.out, H6.out⟩
      · have e22 : (yop != 22) = true := by simpa using h22
        have hru := HRU.out h22
        clear h22 HRP HRU
        go_wp2_with fail
        refine HUC.out.mono ?_
        rintro e w6 ⟨u6, m6, rfl, hu6, hb6⟩
        have h6 := hA.go hb6
        have HAM := hid (among_same u6 (usesOf ⟨yop, yty, ya, yb, yn, yar, yfr⟩) (r : Int) w6 (intsAt_of_owns hu6 (by have := HUL.out; omega)))
        clear HUC hu6 hb6 hA
        go_wp2_with fail
        refine HAM.out.mono ?_
        rintro e w7 ⟨rfl, rfl⟩
        clear HAM
        rw [← hru]
        cases hrd : readsI r ⟨yop, yty, ya, yb, yn, yar, yfr⟩ with
        | true =>
          have HX := hid (HW1.out hrd)
          have HE := hid ((H5.out.trans h6).out HBW.out)
          clear hrd hru HW1 HW2 HW3 h6
          go_wp2
          go_ret
          exact ⟨by rw [HX.out]; rfl, HE.out⟩
        | false =>
          have HRF := hid hrd
          clear hrd hru HW1
          go_wp2_with fail
          refine (HRC.out w6 h6).mono ?_
          rintro e w8 ⟨rfl, hb8⟩
          have h8 := h6.go hb8
          have H8 := hid h8
          clear HRC hb8 h6
          by_cases ho : o = r
          · have eo : ((o : Int) == (r : Int)) = true := by simp [ho]
            have HX := hid (HW2.out HRF.out ho)
            clear ho HW2 HW3
            go_wp2
            go_ret
            exact ⟨by rw [HX.out]; rfl, (H5.out.trans H8.out).out HBW.out⟩
          · have eo : ((o : Int) == (r : Int)) = false := by simp; omega
            have HX := hid (HW3.out HRF.out ho)
            clear ho HW2 HW3
            go_wp2
            go_roundg (gk - 1)
            case measure => have := HI.out; have := HIT.out; omega
            case rel => exact ⟨i + 1, by have := HI.out; have := HIT.out; omega, by go_num, HX.out, H8.out⟩
    · obtain rfl : i = xs.length := by have := HI.out; omega
      have HX := hid (win_end HWIN.out)
      have HEC := hid (fun wx (h : Aft W5 wx) => ends_calls ⟨ek, ea, et, ee⟩ wx HOE.out.1 HOE.out.2 (HT.out.on (H5.out.trans h).below))
      have HEL := hid (ends_len ⟨ek, ea, et, ee⟩)
      have HA := hid hA
      clear HWIN hit
      go_wp2_with fail
      refine (HEC.out wr hA).mono ?_
      rintro e w6 ⟨u6, m6, rfl, hu6, hb6⟩
      have HAM := hid (among_same u6 (endsOf ⟨ek, ea, et, ee⟩) (r : Int) w6 (intsAt_of_owns hu6 (by have := HEL.out; omega)))
      have HE := hid ((H5.out.trans (HA.out.go hb6)).out HBW.out)
      clear HEC hu6 hb6 hA
      go_wp2_with fail
      refine HAM.out.mono ?_
      rintro e w7 ⟨rfl, rfl⟩
      clear HAM
      by_cases hm : (r : Int) ∈ endsOf ⟨ek, ea, et, ee⟩
      · rw [decide_eq_true hm]
        rw [if_pos hm] at HX
        clear hm
        go_wp2
        go_ret
        exact ⟨by rw [HX.out]; rfl, HE.out⟩
      · rw [decide_eq_false hm]
        rw [if_neg hm] at HX
        clear hm
        go_wp2
        go_ret
        exact ⟨by rw [HX.out]; rfl, HE.out⟩
end Go.Proofs.YtkcocgdgmlmflaaDoor.LgX
