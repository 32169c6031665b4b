/- Walk over fescueref07.function. -/
import Derived.Test.YtpkgkeclkbidiaaGreatDoorZRdHasToRdL
import Derived.Test.YtpkgkeclkbidiaaGreatDoorZRcQToRcX
namespace Go.Proofs.YtpkgkeclkbidiaaGreatDoor.RdF
open Go.RowKit Go.Lib TyM TyP ShM ShP ShB IntO SetP LxM LxJ LxY RwO RdM RdN RdV RdA RdO RdB RdP RdL Aft Fresh
open LxP (LinesAt StrsAt)
open RcB (lines_drop)
open RcS (preF preF_nil preF_pre blocks_step)
open RcR (row_new)
open RcP (Fine FineL)

/-- the parameter's box, the result's block, the function's own, its blocks -/
structure FnS (w : World) (sig : Int) (vb : Value) (bs : List Br) (wr : World) : Prop where
 res : wr.heap[w.heap.size + 1]? = some (.cells #[.int .i64 0, .slice none 0 0] 46 (0, 0))
 box : wr.heap[w.heap.size + 1 + 1]? = some (.cells #[.int .i64 sig, vb] 46 (0, 0))
 own : OwnBlks w.heap.size wr vb bs
 below : Below w.heap.size w wr
 size : w.heap.size + 3 ≤ wr.heap.size
theorem FnS.on {w : World} {sig : Int} {vb : Value} {bs : List Br} {wr w' : World} (h : FnS w sig vb bs wr) (hb : Below wr.heap.size wr w') : FnS w sig vb bs w' :=
 ⟨(hb.block _ (by have := h.size; omega)).trans h.res, (hb.block _ (by have := h.size; omega)).trans h.box, h.own.below hb, h.below.trans (hb.mono (by have := h.size; omega)), Nat.le_trans h.size hb.size⟩
theorem FnS.start (w : World) (sig : Int) (o : Obj) : FnS w sig (.slice none 0 0) [] (((w.alloc o).alloc (.cells #[.int .i64 0, .slice none 0 0] 46)).alloc (.cells #[.int .i64 sig, .slice none 0 0] 46)) := by
 have h1 := alloc_new (w.alloc o) (.cells #[.int .i64 0, .slice none 0 0] 46)
 have h2 := alloc_new ((w.alloc o).alloc (.cells #[.int .i64 0, .slice none 0 0] 46)) (.cells #[.int .i64 sig, .slice none 0 0] 46)
 rw [World.size_alloc] at h1
 rw [World.size_alloc, World.size_alloc] at h2
 exact ⟨alloc_old h1 _, h2, ⟨World.ownsRow_nil _ _ _ _, by simp⟩, ((alloc_below _ _).alloc (by simp) _).alloc (by simp only [World.size_alloc]; omega) _, by simp only [World.size_alloc]; omega⟩
theorem FnS.grow {w : World} {sig : Int} {vb v5 : Value} {bs : List Br} {w4 w5 : World} {y : Br} (h : FnS w sig vb bs w4) (hy : OwnIns w.heap.size w4 y.vi y.rows) (h5 : w5.ownsRow w.heap.size 76 5 v5 (bs.length + 1) (rowOf brV bs ++ rowOf brV [y])) (hg : w4.grownBy w5 vb.ownBlock) :
  w5.heap[w.heap.size + 1 + 1]? = some (.cells #[.int .i64 sig, vb] 46 (0, 0)) ∧ FnS w sig v5 (bs ++ [y]) (w5.setCell ⟨w.heap.size + 1 + 1, 1, none⟩ v5) := by
 have g1 := ShTB.blks_step h.own hy h5 hg
 have hs := h.size
 have hlo := h.own.1.lt
 have hne : ∀ n cs, w4.heap[n]? = some (.cells cs 46 (0, 0)) → vb.ownBlock ≠ some n := fun n cs hn e => by
  obtain ⟨cs2, fr2, h3⟩ := own_typed h.own.1 _ e
  rw [hn] at h3
  simp at h3
 have hres : w5.heap[w.heap.size + 1]? = _ := (hg.block _ (Array.getElem?_eq_some_iff.1 h.res).1 (fun e => hne _ _ h.res e.symm)).trans h.res
 have hbox : w5.heap[w.heap.size + 1 + 1]? = _ := (hg.block _ (Array.getElem?_eq_some_iff.1 h.box).1 (fun e => hne _ _ h.box e.symm)).trans h.box
 exact ⟨hbox, ⟨(Below.heap_setCell _ _ _ _ (by simp)).trans hres, (ShTB.set_heap' (i := 1) v5 hbox).trans (by simp), g1.other (ShTB.grown_set w5 _ 1 v5) (ShTB.typed_at hbox) (by decide) (by decide) (by decide), (h.below.grown hg (by omega) (fun k hk => (hlo k hk).1)).setCell (p := ⟨w.heap.size + 1 + 1, 1, none⟩) (Nat.le_trans (Nat.le_succ _) (Nat.le_succ _)) v5, by rw [ShTB.size_set]; have := hg.size; omega⟩⟩
/-- the function stored into the result's -/
theorem FnS.done {w : World} {sig : Int} {vb : Value} {bs : List Br} {wr : World} (h : FnS w sig vb bs wr) :
  ∃ W3, W3 = ((wr.setCell ⟨w.heap.size + 1, 0, none⟩ (.int .i64 sig)).setCell ⟨w.heap.size + 1, 1, none⟩ vb) ∧
   W3.heap[w.heap.size + 1]? = some (.cells #[.int .i64 sig, vb] 46 (0, 0)) ∧ OwnBlks w.heap.size W3 vb bs ∧ Below w.heap.size w W3 := by
 obtain ⟨W3, h1, h2, h3, h4⟩ := set2_world wr (w.heap.size + 1) 46 _ _ (.int .i64 sig) vb h.res
 have hb := h4 0 wr (Below.refl _ _) (Nat.zero_le _)
 have hgr : wr.grownBy W3 (some (w.heap.size + 1)) := ⟨hb.os, hb.tape, hb.output, hb.size, fun k _ hk => h2 k (fun e => hk (by rw [e]))⟩
 exact ⟨W3, h1, h3, h.own.other hgr (ShTB.typed_at h.res) (by decide) (by decide) (by decide), h4 _ _ h.below (by omega)⟩
/-- a function, or none -/
def FunR (sig : Int) (o : Option (List Bx × Nat)) (w : World) (e : Ending) (w' : World) : Prop :=
 ∃ (vb : Value) (bs : List Br) (n : Int), e = .returned (.tuple #[.agg #[.int .i64 sig, vb], .int .i64 n, .bool o.isSome]) ∧ OwnBlks w.heap.size w' vb bs ∧ Below w.heap.size w w' ∧ ∀ q m, o = some (q, m) → q = bs.map Br.bx ∧ n = (m : Nat)
set_option maxRecDepth 100000 in
set_option maxHeartbeats 3000000 in
theorem func_in (ts : List Ty) (vt : Value) (fa : Option Addr) (fn fc : Nat) (sn : Nat) (L : List Ln) (v : Value) (w : World) (ht : TysAt w vt ts) (hpt : ∀ t ∈ ts, t.parts.length ≤ 20000) (hl : LinesAt w v L) (hf : FineL L) (hin : sn < ts.length) :
  Calls Tryz.prog 29 #[.agg #[vt, .slice fa fn fc], .int .i64 (sn : Int), v] w (FunR sn (blocksP L (regOf ts sn)) w) := by
 have hrg : regOf ts (sn : Int) = ((ts[sn].parts.length : Nat) : Int) := by
  unfold regOf
  rw [Int.toNat_natCast]
  simp only [List.getElem?_eq_getElem hin]
 have hq0 : ts[sn].parts.length ≤ 20000 := hpt _ (List.getElem_mem hin)
 obtain ⟨ta, tc, htv⟩ := ht.slice
 subst htv
 obtain ⟨tb, to, rfl, hltb, pv, t0, t1, t2, d3, hpp⟩ := ht.at sn hin
 clear t0 t1 t2
 obtain ⟨pa, pc, hpv, _⟩ := ints_slice hpp
 subst hpv
 have hlt2 : (sn : Int) < ts.length := by omega
 have hlt3 := hin
 have hsn0 : (0 : Int) ≤ (sn : Int) := by omega
 rw [hrg]
 clear hrg hpt hpp ht
 generalize ts[sn].parts.length = q0 at *
 clear hin
 generalize ts.length = tl at *
 obtain ⟨W, hW⟩ : ∃ W, W = ((w.alloc (.cells #[.slice (some ⟨tb, to, none⟩) tl tc, .slice fa fn fc] 25)).alloc (.cells #[.int .i64 0, .slice none 0 0] 46)).alloc (.cells #[.int .i64 (sn : Int), .slice none 0 0] 46) := ⟨_, rfl⟩
 have hs0 := FnS.start w (sn : Int) (.cells #[.slice (some ⟨tb, to, none⟩) tl tc, .slice fa fn fc] 25)
 rw [← hW] at hs0
 have p0 : W.cell? ⟨w.heap.size, 0, none⟩ = some (.slice (some ⟨tb, to, none⟩) tl tc) := by
  rw [hW]
  exact cells_of (alloc_old (alloc_old (alloc_new _ _) _) _) 0 _ rfl
 have d3W : W.cell? ⟨tb, to + sn * 4 + 3, none⟩ = some (.slice pa q0 pc) := (hs0.below.cell (p := ⟨tb, to + sn * 4 + 3, none⟩) hltb).trans d3
 have HW := hid hW
 have HS0 := hid hs0
 have HL := hid hl
 have HF := hid hf
 have HQB := hid hq0
 obtain ⟨ao, cap, rfl, _⟩ := hl.slice
 obtain ⟨oo, hoo⟩ : ∃ o, o = blocksP L ((q0 : Nat) : Int) := ⟨_, rfl⟩
 have HP0 : Hid (oo = preF (([] : List Br).map Br.bx) 0 (blocksP (L.drop 0) ((q0 : Nat) : Int))) := by
  show _ = _
  rw [List.map_nil, preF_nil, List.drop_zero]
  exact hoo
 rw [← hoo]
 clear hl hf hW hs0 hoo hq0
 go_enter Tryz.func29, Tryz.ntmps29
 go_upto_region 2 with fail
 rw [← HW.out]
 clear HW
 go_wp2_with fail
 clear p0 d3 d3W hlt2 hlt3 hltb hsn0
 go_loopg [10, 11] (L.length + 1) (fun gk r i wr => ∃ (k q : Nat) (vb : Value) (bs : List Br), k + gk = L.length + 1 ∧ k ≤ L.length ∧ r = .int .i64 (q : Int) ∧ i = .int .i64 (k : Int) ∧ q + L.length ≤ 40000 + k ∧ bs.length ≤ k ∧ oo = preF (bs.map Br.bx) k (blocksP (L.drop k) (q : Int)) ∧ FnS w sn vb bs wr)
 case atStart => exact ⟨0, q0, _, [], by omega, Nat.zero_le _, rfl, rfl, by have := HQB.out; have := HF.out.1; omega, Nat.zero_le _, HP0.out, HS0.out⟩
 case round =>
  clear HS0 HP0
  obtain ⟨k, q, vb, bs, hk, hkl, rfl, rfl, hqb, hbl, hp, hs⟩ := hrel
  have HK := hid hk
  have HP := hid hp
  have HS := hid hs
  have HQQ := hid hqb
  have HBL := hid hbl
  obtain ⟨i1, i2, hvb⟩ := own_form hs.own.1
  subst hvb
  clear hk hp hs hqb hbl
  by_cases hlt : k < L.length
  rotate_left
  ·have HN : Hid (oo = some (bs.map Br.bx, k)) := by show _ = _; rw [HP.out, List.drop_of_length_le (by omega), blocks_nil]; simp [preF]
   have hli : ¬ ((k : Int) < L.length) := by omega
   clear hlt hkl HP
   have hbx := HS.out.box
   have m0 := cells_of hbx 0 _ rfl; have m1 := cells_of hbx 1 _ rfl
   have hre := HS.out.res
   have y0 := cells_of hre 0 _ rfl; have y1 := cells_of hre 1 _ rfl
   have hz := (ShTB.cells_heap hre).2
   have z0 := hz 0; have z1 := hz 1
   obtain ⟨W3, hW3, hk3, ho3, hb3⟩ := HS.out.done
   have HW3 := hid hW3
   have HO3 := hid ho3
   have HB3 := hid hb3
   have x0 := cells_of hk3 0 _ rfl; have x1 := cells_of hk3 1 _ rfl
   clear hre hz hW3 hk3 ho3 hb3 hbx
   go_wp2
   (try simp only [Exit.inBlock, Exit.then])
   rw [← HW3.out]
   refine bodyPost_ret (by simp [results, Tryz.results29, go_sem, x0, x1]; try rfl) rfl ?_
   exact ⟨_, bs, (k : Nat), by rw [HN.out]; rfl, HO3.out, HB3.out, fun q m h => by rw [HN.out] at h; cases h; exact ⟨rfl, rfl⟩⟩
  have hmem : L.getD k [] ∈ L := by rw [List.getD_eq_getElem?_getD, List.getElem?_eq_getElem hlt]; exact List.getElem_mem _
  have hd : L.drop k = L.getD k [] :: L.drop (k + 1) := by rw [List.drop_eq_getElem_cons hlt, List.getD_eq_getElem?_getD, List.getElem?_eq_getElem hlt]; rfl
  have hl1 := (HF.out.2 _ hmem).1
  obtain ⟨b, off, b2, o2, c2, rfl, k0, k1, _⟩ := line_at (HL.out.below HS.out.below) k hlt hl1
  have hki : (k : Int) < L.length := by omega
  have hkp : (0 : Int) ≤ (k : Int) := by omega
  have HLT := hid hlt
  have HLL := hid HF.out.1
  rw [hd] at HP
  obtain ⟨vd, hvd, hrd'⟩ := lines_drop (HL.out.below HS.out.below) (k := k + 1) hlt
  have hrd : ∀ wx : World, (Instr.slice 33 (.slice (some ⟨b, off, none⟩) L.length cap) (some (.int .i64 ((k : Int) + 1))) none none).run Tryz.prog wx = .ok vd wx := fun wx => by
   rw [show (k : Int) + 1 = ((k + 1 : Nat) : Int) by omega]
   exact hrd' wx
  have HBC := hid (block_calls (L.drop (k + 1)) (q : Int) vd wr hvd (HF.out.drop (k + 1)) ⟨by omega, by have := HQQ.out; have := HF.out.1; rw [List.length_drop]; omega⟩)
  obtain ⟨sd, cd, rfl, _⟩ := hvd.slice
  have HDL : Hid ((L.drop (k + 1)).length ≤ L.length - (k + 1)) := by show _ ≤ _; rw [List.length_drop]; omega
  have HDR : Hid (∀ m, (L.drop (k + 1)).drop m = L.drop (k + (1 + m))) := fun m => by rw [List.drop_drop]; congr 1; omega
  have hwk : IntKind.i64.wrap ((k : Int) + 1) = (k : Int) + 1 := IntWalk.i64_in _ (by have := HLL.out; omega)
  generalize L.getD k [] = l at *
  have hl0 : 0 < l.length := hl1
  generalize L.drop (k + 1) = M at *
  clear hmem hd hrd' hvd hl1 hlt hkl
  generalize hw0 : l.getD 0 ⟨#[]⟩ = s0 at *
  have HW0 := hid hw0
  clear hw0
  have e0 := str_eq s0 [98, 108, 111, 99, 107]
  by_cases hbk : un s0 = [98, 108, 111, 99, 107]
  rotate_left
  ·have HN : Hid (oo = some (bs.map Br.bx, k)) := by
    show _ = _
    rw [HP.out, blocks_cons, if_neg (by show ¬ un (l.getD 0 ⟨#[]⟩) = _; rw [HW0.out]; exact hbk)]
    simp [preF]
   rw [decide_eq_false hbk] at e0
   clear hbk HP HBC
   have hbx := HS.out.box
   have m0 := cells_of hbx 0 _ rfl; have m1 := cells_of hbx 1 _ rfl
   have hre := HS.out.res
   have y0 := cells_of hre 0 _ rfl; have y1 := cells_of hre 1 _ rfl
   have hz := (ShTB.cells_heap hre).2
   have z0 := hz 0; have z1 := hz 1
   obtain ⟨W3, hW3, hk3, ho3, hb3⟩ := HS.out.done
   have HW3 := hid hW3
   have HO3 := hid ho3
   have HB3 := hid hb3
   have x0 := cells_of hk3 0 _ rfl; have x1 := cells_of hk3 1 _ rfl
   clear hre hz hW3 hk3 ho3 hb3 hbx
   go_wp2
   (try simp only [Exit.inBlock, Exit.then])
   rw [← HW3.out]
   refine bodyPost_ret (by simp [results, Tryz.results29, go_sem, x0, x1]; try rfl) rfl ?_
   exact ⟨_, bs, (k : Nat), by rw [HN.out]; rfl, HO3.out, HB3.out, fun q m h => by rw [HN.out] at h; cases h; exact ⟨rfl, rfl⟩⟩
  rw [decide_eq_true hbk] at e0
  have HWL : Hid (w0 l = [98, 108, 111, 99, 107]) := by show un (l.getD 0 ⟨#[]⟩) = _; rw [HW0.out]; exact hbk
  clear hbk
  by_cases hone : l.length = 1
  rotate_left
  ·have HN : Hid (oo = none) := by
    show _ = _
    rw [HP.out, blocks_cons, if_pos HWL.out, if_neg hone]
    rfl
   have hn1 : ((l.length : Int) != 1) = true := by simp; omega
   clear hone HP HBC
   have hbx := HS.out.box
   have m0 := cells_of hbx 0 _ rfl; have m1 := cells_of hbx 1 _ rfl
   have hre := HS.out.res
   have y0 := cells_of hre 0 _ rfl; have y1 := cells_of hre 1 _ rfl
   have hz := (ShTB.cells_heap hre).2
   have z0 := hz 0; have z1 := hz 1
   obtain ⟨W3, hW3, hk3, ho3, hb3⟩ := HS.out.done
   have HW3 := hid hW3
   have HO3 := hid ho3
   have HB3 := hid hb3
   have x0 := cells_of hk3 0 _ rfl; have x1 := cells_of hk3 1 _ rfl
   clear hre hz hW3 hk3 ho3 hb3 hbx
   go_wp2
   (try simp only [Exit.inBlock, Exit.then])
   rw [← HW3.out]
   refine bodyPost_ret (by simp [results, Tryz.results29, go_sem, x0, x1]; try rfl) rfl ?_
   exact ⟨_, bs, 0, by rw [HN.out]; rfl, HO3.out, HB3.out, fun q m h => by rw [HN.out] at h; cases h⟩
  have hn1 : ((l.length : Int) != 1) = false := by simp; omega
  have HONE1 : Hid (∀ x, x = l → x.length = 1) := fun x hx => by rw [hx]; exact hone
  clear hone
  generalize l.length = ln at *
  go_wp2_with fail
  refine HBC.out.mono ?_
  rintro e w4 ⟨x, vi, rows, n, rfl, hoi, hb4, hqm⟩
  obtain ⟨ia, ic, hvi⟩ := own_form hoi.1
  subst hvi
  have HQM := hid hqm
  obtain ⟨X5, hX5⟩ : ∃ X, X = w4.alloc (.cells #[.slice ia rows.length ic, .int .u8 x.kind, .int .i64 x.a, .int .i64 x.to, .int .i64 x.els] 76) := ⟨_, rfl⟩
  have hk5 : X5.heap[w4.heap.size]? = some (.cells #[.slice ia rows.length ic, .int .u8 x.kind, .int .i64 x.a, .int .i64 x.to, .int .i64 x.els] 76 (0, 0)) := by rw [hX5]; exact alloc_new _ _
  have HX5 := hid hX5
  have hb5 : Below w4.heap.size w4 X5 := by rw [hX5]; exact alloc_below _ _
  have HS5 := hid ((HS.out.on hb4).on hb5)
  have HK5 := hid hk5
  have HLO := hid HS.out.own.1.lt
  have HSZ0 := hid HS.out.size
  have HSZ4 := hid hb4.size
  have HOY := hid (show OwnIns w.heap.size X5 (.slice ia rows.length ic) rows from ((hoi.below hb5).base HS.out.below.size))
  have v0 := cells_of hk5 0 _ rfl; have v1 := cells_of hk5 1 _ rfl; have v2 := cells_of hk5 2 _ rfl; have v3 := cells_of hk5 3 _ rfl; have v4 := cells_of hk5 4 _ rfl
  clear hX5 hk5 hb5 hb4 hoi hqm HBC HS hrd
  cases hi : blockP M (q : Int) with
  | none =>
   have HN : Hid (oo = none) := by
    show _ = _
    rw [HP.out, blocks_cons, if_pos HWL.out, if_pos (HONE1.out l rfl), hi]
    rfl
   clear hi HP HQM HOY v0 v1 v2 v3 v4
   go_upto_region 10 with fail
   rw [← HX5.out]
   clear k0 k1 HX5
   have hbx := HS5.out.box
   have m0 := cells_of hbx 0 _ rfl; have m1 := cells_of hbx 1 _ rfl
   have hre := HS5.out.res
   have y0 := cells_of hre 0 _ rfl; have y1 := cells_of hre 1 _ rfl
   have hz := (ShTB.cells_heap hre).2
   have z0 := hz 0; have z1 := hz 1
   obtain ⟨W3, hW3, hk3, ho3, hb3⟩ := HS5.out.done
   have HW3 := hid hW3
   have HO3 := hid ho3
   have HB3 := hid hb3
   have x0 := cells_of hk3 0 _ rfl; have x1 := cells_of hk3 1 _ rfl
   clear hre hz hW3 hk3 ho3 hb3 hbx
   go_wp2
   (try simp only [Exit.inBlock, Exit.then])
   rw [← HW3.out]
   refine bodyPost_ret (by simp [results, Tryz.results29, go_sem, x0, x1]; try rfl) rfl ?_
   exact ⟨_, bs, 0, by rw [HN.out]; rfl, HO3.out, HB3.out, fun q m h => by rw [HN.out] at h; cases h⟩
  | some r =>
   obtain ⟨z, m⟩ := r
   obtain ⟨hz, hnm⟩ := HQM.out z m hi
   subst hz
   subst hnm
   obtain ⟨hmn0, hml⟩ := block_len hi
   have hmn : m = rows.length + 1 := by simpa using hmn0
   clear hmn0
   have HMN := hid hmn
   have HP2 : Hid (oo = preF (bs.map Br.bx ++ [Br.bx (⟨x, .slice ia rows.length ic, rows⟩ : Br)]) (k + (1 + m)) (blocksP (L.drop (k + (1 + m))) ((q + rows.length : Nat) : Int))) := by
    show _ = _
    rw [HP.out, blocks_step HWL.out (HONE1.out l rfl) hi, preF_pre, HDR.out m]
    simp only [List.length_map]
    rfl
   have HKM : Hid (k + (1 + m) ≤ L.length) := by show _ ≤ _; have := HDL.out; have := HLT.out; omega
   have hbx := HS5.out.box
   have m1 := cells_of hbx 1 _ rfl
   have hb6 := alloc_below X5 (.cells #[.slice ia rows.length ic, .int .u8 x.kind, .int .i64 x.a, .int .i64 x.to, .int .i64 x.els] 76)
   have HS6 := hid (HS5.out.on hb6)
   have HOY6 := hid (HOY.out.below hb6)
   have HONE : Hid (∀ z ∈ [(⟨x, .slice ia rows.length ic, rows⟩ : Br)], ∀ u ∈ brV z, u.oneCell' = true) := fun z hz => by rw [List.mem_singleton.1 hz]; exact oneBr _ ⟨_, _, _, rfl⟩
   have HCELL : Hid (0 < [(⟨x, .slice ia rows.length ic, rows⟩ : Br)].length → ∃ b off, some (⟨X5.heap.size, 0, none⟩ : Addr) = some ⟨b, off, none⟩ ∧ ∀ j u, (rowOf brV [(⟨x, .slice ia rows.length ic, rows⟩ : Br)])[j]? = some u → (X5.alloc (.cells #[.slice ia rows.length ic, .int .u8 x.kind, .int .i64 x.a, .int .i64 x.to, .int .i64 x.els] 76)).cell? ⟨b, off + j, none⟩ = some u) := fun _ => ⟨_, 0, rfl, row_new _ _ _ _ brV rfl⟩
   have HLN1 : Hid (bs.length + 1 ≤ 30000) := by show _ ≤ _; have := HBL.out; have := HLT.out; have := HLL.out; omega
   have hsz : w.heap.size ≤ (X5.alloc (.cells #[.slice ia rows.length ic, .int .u8 x.kind, .int .i64 x.a, .int .i64 x.to, .int .i64 x.els] 76)).heap.size := HS6.out.below.size
   have hwq : IntKind.i64.wrap ((q : Int) + (rows.length : Int)) = ((q + rows.length : Nat) : Int) := by rw [IntWalk.i64_in _ (by have := HQQ.out; have := HKM.out; have := HLL.out; have := HMN.out; omega)]; omega
   have hwm : IntKind.i64.wrap ((k : Int) + 1 + (m : Int)) = ((k + (1 + m) : Nat) : Int) := by rw [IntWalk.i64_in _ (by have := HKM.out; have := HLL.out; omega)]; omega
   clear hi HP HOY hbx hb6 k0 k1 hmn hml hkp hki e0 hn1
   go_upto_region 10 with fail
   rw [← HX5.out]
   clear HX5
   go_wp2_with (at_builtin; refine wpList_append_row brW (by decide) infoBlk Tryz.underlying44 zeroBlk rfl (.tmp 63) (.tmp 65) rfl w.heap.size (.slice i1 bs.length i2) rfl bs.length (rowOf brV bs) HS6.out.own.1 (some ⟨X5.heap.size, 0, none⟩) 1 1 [(⟨x, .slice ia rows.length ic, rows⟩ : Br)] rfl rfl HONE.out (fun h => by cases h) HCELL.out (by have := HLN1.out; unfold maxLen; simp; omega) (by have := HLN1.out; simp; omega) hsz ?_)
   intro v7 w7 hown7 hgr7
   obtain ⟨g1, g2⟩ := HS6.out.grow HOY6.out hown7 hgr7
   obtain ⟨p7, c7, h70⟩ := own_form hown7
   subst h70
   have HS7 := hid g2
   have zz := (ShTB.cells_heap g1).2 1
   have yy := cells_of g1 1 _ rfl
   have v07 : w7.heap[w4.heap.size]? = some (.cells #[.slice ia rows.length ic, .int .u8 x.kind, .int .i64 x.a, .int .i64 x.to, .int .i64 x.els] 76 (0, 0)) := (hgr7.block _ (Array.getElem?_eq_some_iff.1 (alloc_old HK5.out _)).1 (fun e => by have := (HLO.out _ e.symm).2; have := HSZ4.out; omega)).trans (alloc_old HK5.out _)
   obtain ⟨X8, hX8⟩ : ∃ X, X = w7.setCell ⟨w.heap.size + 1 + 1, 1, none⟩ (.slice p7 (bs.length + 1) c7) := ⟨_, rfl⟩
   have HX8 := hid hX8
   have hk8 : X8.heap[w4.heap.size]? = some (.cells #[.slice ia rows.length ic, .int .u8 x.kind, .int .i64 x.a, .int .i64 x.to, .int .i64 x.els] 76 (0, 0)) := by
    rw [hX8]
    exact (Below.heap_setCell _ _ _ _ (by have := HSZ0.out; have := HSZ4.out; simp only; omega)).trans v07
   have v08 := cells_of hk8 0 _ rfl
   have HS8 : Hid (FnS w sn (.slice p7 (bs.length + 1) c7) (bs ++ [(⟨x, .slice ia rows.length ic, rows⟩ : Br)]) X8) := by show FnS _ _ _ _ _; rw [hX8]; exact HS7.out
   clear v07 hX8 hk8 HS7 HK5 HLO HSZ0 HSZ4
   clear hown7 hgr7 g1 g2 hsz m1 v0 v1 v2 v3 v4 HS5 HS6 HOY6 HONE HCELL
   go_upto_region 13 with fail
   rw [← HX8.out]
   clear HX8 zz yy
   go_wp2
   go_roundg (gk - (1 + m))
   case measure => have := HK.out; have := HKM.out; omega
   case rel => exact ⟨k + (1 + m), q + rows.length, _, bs ++ [(⟨x, .slice ia rows.length ic, rows⟩ : Br)], by have := HK.out; have := HKM.out; omega, HKM.out, congrArg (Value.int .i64) (by omega), congrArg (Value.int .i64) (by omega), by have := HQQ.out; have := HMN.out; omega, by have := HBL.out; simp; omega, by rw [HP2.out, List.map_append]; rfl, HS8.out⟩
set_option maxRecDepth 100000 in
set_option maxHeartbeats 3000000 in
theorem func_out (ts : List Ty) (vt : Value) (fa : Option Addr) (fn fc : Nat) (sn : Nat) (L : List Ln) (v : Value) (w : World) (ht : TysAt w vt ts) (hl : LinesAt w v L) (hf : FineL L) (hin : ¬ sn < ts.length) :
  Calls Tryz.prog 29 #[.agg #[vt, .slice fa fn fc], .int .i64 (sn : Int), v] w (FunR sn (blocksP L (regOf ts sn)) w) := by
 have hrg : regOf ts (sn : Int) = ((0 : Nat) : Int) := by
  unfold regOf
  rw [Int.toNat_natCast, List.getElem?_eq_none (by omega)]
  rfl
 obtain ⟨ta, tc, htv⟩ := ht.slice
 subst htv
 obtain ⟨q0, hq⟩ : ∃ q : Nat, q = 0 := ⟨_, rfl⟩
 have hq0 : q0 ≤ 20000 := by omega
 have hlt2 : ¬ (sn : Int) < ts.length := by omega
 have HQ0 := hid hq
 rw [hrg, ← hq]
 clear hrg hin ht hq
 generalize ts.length = tl at *
 obtain ⟨W, hW⟩ : ∃ W, W = ((w.alloc (.cells #[.slice ta tl tc, .slice fa fn fc] 25)).alloc (.cells #[.int .i64 0, .slice none 0 0] 46)).alloc (.cells #[.int .i64 (sn : Int), .slice none 0 0] 46) := ⟨_, rfl⟩
 have hs0 := FnS.start w (sn : Int) (.cells #[.slice ta tl tc, .slice fa fn fc] 25)
 rw [← hW] at hs0
 have p0 : W.cell? ⟨w.heap.size, 0, none⟩ = some (.slice ta tl tc) := by
  rw [hW]
  exact cells_of (alloc_old (alloc_old (alloc_new _ _) _) _) 0 _ rfl

 have HW := hid hW
 have HS0 := hid hs0
 have HL := hid hl
 have HF := hid hf
 have HQB := hid hq0
 obtain ⟨ao, cap, rfl, _⟩ := hl.slice
 obtain ⟨oo, hoo⟩ : ∃ o, o = blocksP L ((q0 : Nat) : Int) := ⟨_, rfl⟩
 have HP0 : Hid (oo = preF (([] : List Br).map Br.bx) 0 (blocksP (L.drop 0) ((q0 : Nat) : Int))) := by
  show _ = _
  rw [List.map_nil, preF_nil, List.drop_zero]
  exact hoo
 rw [← hoo]
 clear hl hf hW hs0 hoo hq0
 go_enter Tryz.func29, Tryz.ntmps29
 go_upto_region 2 with fail
 rw [← HW.out]
 clear HW
 go_wp2_with fail
 clear p0 hlt2
 go_loopg [10, 11] (L.length + 1) (fun gk r i wr => ∃ (k q : Nat) (vb : Value) (bs : List Br), k + gk = L.length + 1 ∧ k ≤ L.length ∧ r = .int .i64 (q : Int) ∧ i = .int .i64 (k : Int) ∧ q + L.length ≤ 40000 + k ∧ bs.length ≤ k ∧ oo = preF (bs.map Br.bx) k (blocksP (L.drop k) (q : Int)) ∧ FnS w sn vb bs wr)
 case atStart => exact ⟨0, q0, _, [], by omega, Nat.zero_le _, by rw [HQ0.out]; rfl, rfl, by have := HQB.out; have := HF.out.1; omega, Nat.zero_le _, HP0.out, HS0.out⟩
 case round =>
  clear HS0 HP0
  obtain ⟨k, q, vb, bs, hk, hkl, rfl, rfl, hqb, hbl, hp, hs⟩ := hrel
  have HK := hid hk
  have HP := hid hp
  have HS := hid hs
  have HQQ := hid hqb
  have HBL := hid hbl
  obtain ⟨i1, i2, hvb⟩ := own_form hs.own.1
  subst hvb
  clear hk hp hs hqb hbl
  by_cases hlt : k < L.length
  rotate_left
  ·have HN : Hid (oo = some (bs.map Br.bx, k)) := by show _ = _; rw [HP.out, List.drop_of_length_le (by omega), blocks_nil]; simp [preF]
   have hli : ¬ ((k : Int) < L.length) := by omega
   clear hlt hkl HP
   have hbx := HS.out.box
   have m0 := cells_of hbx 0 _ rfl; have m1 := cells_of hbx 1 _ rfl
   have hre := HS.out.res
   have y0 := cells_of hre 0 _ rfl; have y1 := cells_of hre 1 _ rfl
   have hz := (ShTB.cells_heap hre).2
   have z0 := hz 0; have z1 := hz 1
   obtain ⟨W3, hW3, hk3, ho3, hb3⟩ := HS.out.done
   have HW3 := hid hW3
   have HO3 := hid ho3
   have HB3 := hid hb3
   have x0 := cells_of hk3 0 _ rfl; have x1 := cells_of hk3 1 _ rfl
   clear hre hz hW3 hk3 ho3 hb3 hbx
   go_wp2
   (try simp only [Exit.inBlock, Exit.then])
   rw [← HW3.out]
   refine bodyPost_ret (by simp [results, Tryz.results29, go_sem, x0, x1]; try rfl) rfl ?_
   exact ⟨_, bs, (k : Nat), by rw [HN.out]; rfl, HO3.out, HB3.out, fun q m h => by rw [HN.out] at h; cases h; exact ⟨rfl, rfl⟩⟩
  have hmem : L.getD k [] ∈ L := by rw [List.getD_eq_getElem?_getD, List.getElem?_eq_getElem hlt]; exact List.getElem_mem _
  have hd : L.drop k = L.getD k [] :: L.drop (k + 1) := by rw [List.drop_eq_getElem_cons hlt, List.getD_eq_getElem?_getD, List.getElem?_eq_getElem hlt]; rfl
  have hl1 := (HF.out.2 _ hmem).1
  obtain ⟨b, off, b2, o2, c2, rfl, k0, k1, _⟩ := line_at (HL.out.below HS.out.below) k hlt hl1
  have hki : (k : Int) < L.length := by omega
  have hkp : (0 : Int) ≤ (k : Int) := by omega
  have HLT := hid hlt
  have HLL := hid HF.out.1
  rw [hd] at HP
  obtain ⟨vd, hvd, hrd'⟩ := lines_drop (HL.out.below HS.out.below) (k := k + 1) hlt
  have hrd : ∀ wx : World, (Instr.slice 33 (.slice (some ⟨b, off, none⟩) L.length cap) (some (.int .i64 ((k : Int) + 1))) none none).run Tryz.prog wx = .ok vd wx := fun wx => by
   rw [show (k : Int) + 1 = ((k + 1 : Nat) : Int) by omega]
   exact hrd' wx
  have HBC := hid (block_calls (L.drop (k + 1)) (q : Int) vd wr hvd (HF.out.drop (k + 1)) ⟨by omega, by have := HQQ.out; have := HF.out.1; rw [List.length_drop]; omega⟩)
  obtain ⟨sd, cd, rfl, _⟩ := hvd.slice
  have HDL : Hid ((L.drop (k + 1)).length ≤ L.length - (k + 1)) := by show _ ≤ _; rw [List.length_drop]; omega
  have HDR : Hid (∀ m, (L.drop (k + 1)).drop m = L.drop (k + (1 + m))) := fun m => by rw [List.drop_drop]; congr 1; omega
  have hwk : IntKind.i64.wrap ((k : Int) + 1) = (k : Int) + 1 := IntWalk.i64_in _ (by have := HLL.out; omega)
  generalize L.getD k [] = l at *
  have hl0 : 0 < l.length := hl1
  generalize L.drop (k + 1) = M at *
  clear hmem hd hrd' hvd hl1 hlt hkl
  generalize hw0 : l.getD 0 ⟨#[]⟩ = s0 at *
  have HW0 := hid hw0
  clear hw0
  have e0 := str_eq s0 [98, 108, 111, 99, 107]
  by_cases hbk : un s0 = [98, 108, 111, 99, 107]
  rotate_left
  ·have HN : Hid (oo = some (bs.map Br.bx, k)) := by
    show _ = _
    rw [HP.out, blocks_cons, if_neg (by show ¬ un (l.getD 0 ⟨#[]⟩) = _; rw [HW0.out]; exact hbk)]
    simp [preF]
   rw [decide_eq_false hbk] at e0
   clear hbk HP HBC
   have hbx := HS.out.box
   have m0 := cells_of hbx 0 _ rfl; have m1 := cells_of hbx 1 _ rfl
   have hre := HS.out.res
   have y0 := cells_of hre 0 _ rfl; have y1 := cells_of hre 1 _ rfl
   have hz := (ShTB.cells_heap hre).2
   have z0 := hz 0; have z1 := hz 1
   obtain ⟨W3, hW3, hk3, ho3, hb3⟩ := HS.out.done
   have HW3 := hid hW3
   have HO3 := hid ho3
   have HB3 := hid hb3
   have x0 := cells_of hk3 0 _ rfl; have x1 := cells_of hk3 1 _ rfl
   clear hre hz hW3 hk3 ho3 hb3 hbx
   go_wp2
   (try simp only [Exit.inBlock, Exit.then])
   rw [← HW3.out]
   refine bodyPost_ret (by simp [results, Tryz.results29, go_sem, x0, x1]; try rfl) rfl ?_
   exact ⟨_, bs, (k : Nat), by rw [HN.out]; rfl, HO3.out, HB3.out, fun q m h => by rw [HN.out] at h; cases h; exact ⟨rfl, rfl⟩⟩
  rw [decide_eq_true hbk] at e0
  have HWL : Hid (w0 l = [98, 108, 111, 99, 107]) := by show un (l.getD 0 ⟨#[]⟩) = _; rw [HW0.out]; exact hbk
  clear hbk
  by_cases hone : l.length = 1
  rotate_left
  ·have HN : Hid (oo = none) := by
    show _ = _
    rw [HP.out, blocks_cons, if_pos HWL.out, if_neg hone]
    rfl
   have hn1 : ((l.length : Int) != 1) = true := by simp; omega
   clear hone HP HBC
   have hbx := HS.out.box
   have m0 := cells_of hbx 0 _ rfl; have m1 := cells_of hbx 1 _ rfl
   have hre := HS.out.res
   have y0 := cells_of hre 0 _ rfl; have y1 := cells_of hre 1 _ rfl
   have hz := (ShTB.cells_heap hre).2
   have z0 := hz 0; have z1 := hz 1
   obtain ⟨W3, hW3, hk3, ho3, hb3⟩ := HS.out.done
   have HW3 := hid hW3
   have HO3 := hid ho3
   have HB3 := hid hb3
   have x0 := cells_of hk3 0 _ rfl; have x1 := cells_of hk3 1 _ rfl
   clear hre hz hW3 hk3 ho3 hb3 hbx
   go_wp2
   (try simp only [Exit.inBlock, Exit.then])
   rw [← HW3.out]
   refine bodyPost_ret (by simp [results, Tryz.results29, go_sem, x0, x1]; try rfl) rfl ?_
   exact ⟨_, bs, 0, by rw [HN.out]; rfl, HO3.out, HB3.out, fun q m h => by rw [HN.out] at h; cases h⟩
  have hn1 : ((l.length : Int) != 1) = false := by simp; omega
  have HONE1 : Hid (∀ x, x = l → x.length = 1) := fun x hx => by rw [hx]; exact hone
  clear hone
  generalize l.length = ln at *
  go_wp2_with fail
  refine HBC.out.mono ?_
  rintro e w4 ⟨x, vi, rows, n, rfl, hoi, hb4, hqm⟩
  obtain ⟨ia, ic, hvi⟩ := own_form hoi.1
  subst hvi
  have HQM := hid hqm
  obtain ⟨X5, hX5⟩ : ∃ X, X = w4.alloc (.cells #[.slice ia rows.length ic, .int .u8 x.kind, .int .i64 x.a, .int .i64 x.to, .int .i64 x.els] 76) := ⟨_, rfl⟩
  have hk5 : X5.heap[w4.heap.size]? = some (.cells #[.slice ia rows.length ic, .int .u8 x.kind, .int .i64 x.a, .int .i64 x.to, .int .i64 x.els] 76 (0, 0)) := by rw [hX5]; exact alloc_new _ _
  have HX5 := hid hX5
  have hb5 : Below w4.heap.size w4 X5 := by rw [hX5]; exact alloc_below _ _
  have HS5 := hid ((HS.out.on hb4).on hb5)
  have HK5 := hid hk5
  have HLO := hid HS.out.own.1.lt
  have HSZ0 := hid HS.out.size
  have HSZ4 := hid hb4.size
  have HOY := hid (show OwnIns w.heap.size X5 (.slice ia rows.length ic) rows from ((hoi.below hb5).base HS.out.below.size))
  have v0 := cells_of hk5 0 _ rfl; have v1 := cells_of hk5 1 _ rfl; have v2 := cells_of hk5 2 _ rfl; have v3 := cells_of hk5 3 _ rfl; have v4 := cells_of hk5 4 _ rfl
  clear hX5 hk5 hb5 hb4 hoi hqm HBC HS hrd
  cases hi : blockP M (q : Int) with
  | none =>
   have HN : Hid (oo = none) := by
    show _ = _
    rw [HP.out, blocks_cons, if_pos HWL.out, if_pos (HONE1.out l rfl), hi]
    rfl
   clear hi HP HQM HOY v0 v1 v2 v3 v4
   go_upto_region 10 with fail
   rw [← HX5.out]
   clear k0 k1 HX5
   have hbx := HS5.out.box
   have m0 := cells_of hbx 0 _ rfl; have m1 := cells_of hbx 1 _ rfl
   have hre := HS5.out.res
   have y0 := cells_of hre 0 _ rfl; have y1 := cells_of hre 1 _ rfl
   have hz := (ShTB.cells_heap hre).2
   have z0 := hz 0; have z1 := hz 1
   obtain ⟨W3, hW3, hk3, ho3, hb3⟩ := HS5.out.done
   have HW3 := hid hW3
   have HO3 := hid ho3
   have HB3 := hid hb3
   have x0 := cells_of hk3 0 _ rfl; have x1 := cells_of hk3 1 _ rfl
   clear hre hz hW3 hk3 ho3 hb3 hbx
   go_wp2
   (try simp only [Exit.inBlock, Exit.then])
   rw [← HW3.out]
   refine bodyPost_ret (by simp [results, Tryz.results29, go_sem, x0, x1]; try rfl) rfl ?_
   exact ⟨_, bs, 0, by rw [HN.out]; rfl, HO3.out, HB3.out, fun q m h => by rw [HN.out] at h; cases h⟩
  | some r =>
   obtain ⟨z, m⟩ := r
   obtain ⟨hz, hnm⟩ := HQM.out z m hi
   subst hz
   subst hnm
   obtain ⟨hmn0, hml⟩ := block_len hi
   have hmn : m = rows.length + 1 := by simpa using hmn0
   clear hmn0
   have HMN := hid hmn
   have HP2 : Hid (oo = preF (bs.map Br.bx ++ [Br.bx (⟨x, .slice ia rows.length ic, rows⟩ : Br)]) (k + (1 + m)) (blocksP (L.drop (k + (1 + m))) ((q + rows.length : Nat) : Int))) := by
    show _ = _
    rw [HP.out, blocks_step HWL.out (HONE1.out l rfl) hi, preF_pre, HDR.out m]
    simp only [List.length_map]
    rfl
   have HKM : Hid (k + (1 + m) ≤ L.length) := by show _ ≤ _; have := HDL.out; have := HLT.out; omega
   have hbx := HS5.out.box
   have m1 := cells_of hbx 1 _ rfl
   have hb6 := alloc_below X5 (.cells #[.slice ia rows.length ic, .int .u8 x.kind, .int .i64 x.a, .int .i64 x.to, .int .i64 x.els] 76)
   have HS6 := hid (HS5.out.on hb6)
   have HOY6 := hid (HOY.out.below hb6)
   have HONE : Hid (∀ z ∈ [(⟨x, .slice ia rows.length ic, rows⟩ : Br)], ∀ u ∈ brV z, u.oneCell' = true) := fun z hz => by rw [List.mem_singleton.1 hz]; exact oneBr _ ⟨_, _, _, rfl⟩
   have HCELL : Hid (0 < [(⟨x, .slice ia rows.length ic, rows⟩ : Br)].length → ∃ b off, some (⟨X5.heap.size, 0, none⟩ : Addr) = some ⟨b, off, none⟩ ∧ ∀ j u, (rowOf brV [(⟨x, .slice ia rows.length ic, rows⟩ : Br)])[j]? = some u → (X5.alloc (.cells #[.slice ia rows.length ic, .int .u8 x.kind, .int .i64 x.a, .int .i64 x.to, .int .i64 x.els] 76)).cell? ⟨b, off + j, none⟩ = some u) := fun _ => ⟨_, 0, rfl, row_new _ _ _ _ brV rfl⟩
   have HLN1 : Hid (bs.length + 1 ≤ 30000) := by show _ ≤ _; have := HBL.out; have := HLT.out; have := HLL.out; omega
   have hsz : w.heap.size ≤ (X5.alloc (.cells #[.slice ia rows.length ic, .int .u8 x.kind, .int .i64 x.a, .int .i64 x.to, .int .i64 x.els] 76)).heap.size := HS6.out.below.size
   have hwq : IntKind.i64.wrap ((q : Int) + (rows.length : Int)) = ((q + rows.length : Nat) : Int) := by rw [IntWalk.i64_in _ (by have := HQQ.out; have := HKM.out; have := HLL.out; have := HMN.out; omega)]; omega
   have hwm : IntKind.i64.wrap ((k : Int) + 1 + (m : Int)) = ((k + (1 + m) : Nat) : Int) := by rw [IntWalk.i64_in _ (by have := HKM.out; have := HLL.out; omega)]; omega
   clear hi HP HOY hbx hb6 k0 k1 hmn hml hkp hki e0 hn1
   go_upto_region 10 with fail
   rw [← HX5.out]
   clear HX5
   go_wp2_with (at_builtin; refine wpList_append_row brW (by decide) infoBlk Tryz.underlying44 zeroBlk rfl (.tmp 63) (.tmp 65) rfl w.heap.size (.slice i1 bs.length i2) rfl bs.length (rowOf brV bs) HS6.out.own.1 (some ⟨X5.heap.size, 0, none⟩) 1 1 [(⟨x, .slice ia rows.length ic, rows⟩ : Br)] rfl rfl HONE.out (fun h => by cases h) HCELL.out (by have := HLN1.out; unfold maxLen; simp; omega) (by have := HLN1.out; simp; omega) hsz ?_)
   intro v7 w7 hown7 hgr7
   obtain ⟨g1, g2⟩ := HS6.out.grow HOY6.out hown7 hgr7
   obtain ⟨p7, c7, h70⟩ := own_form hown7
   subst h70
   have HS7 := hid g2
   have zz := (ShTB.cells_heap g1).2 1
   have yy := cells_of g1 1 _ rfl
   have v07 : w7.heap[w4.heap.size]? = some (.cells #[.slice ia rows.length ic, .int .u8 x.kind, .int .i64 x.a, .int .i64 x.to, .int .i64 x.els] 76 (0, 0)) := (hgr7.block _ (Array.getElem?_eq_some_iff.1 (alloc_old HK5.out _)).1 (fun e => by have := (HLO.out _ e.symm).2; have := HSZ4.out; omega)).trans (alloc_old HK5.out _)
   obtain ⟨X8, hX8⟩ : ∃ X, X = w7.setCell ⟨w.heap.size + 1 + 1, 1, none⟩ (.slice p7 (bs.length + 1) c7) := ⟨_, rfl⟩
   have HX8 := hid hX8
   have hk8 : X8.heap[w4.heap.size]? = some (.cells #[.slice ia rows.length ic, .int .u8 x.kind, .int .i64 x.a, .int .i64 x.to, .int .i64 x.els] 76 (0, 0)) := by
    rw [hX8]
    exact (Below.heap_setCell _ _ _ _ (by have := HSZ0.out; have := HSZ4.out; simp only; omega)).trans v07
   have v08 := cells_of hk8 0 _ rfl
   have HS8 : Hid (FnS w sn (.slice p7 (bs.length + 1) c7) (bs ++ [(⟨x, .slice ia rows.length ic, rows⟩ : Br)]) X8) := by show FnS _ _ _ _ _; rw [hX8]; exact HS7.out
   clear v07 hX8 hk8 HS7 HK5 HLO HSZ0 HSZ4
   clear hown7 hgr7 g1 g2 hsz m1 v0 v1 v2 v3 v4 HS5 HS6 HOY6 HONE HCELL
   go_upto_region 13 with fail
   rw [← HX8.out]
   clear HX8 zz yy
   go_wp2
   go_roundg (gk - (1 + m))
   case measure => have := HK.out; have := HKM.out; omega
   case rel => exact ⟨k + (1 + m), q + rows.length, _, bs ++ [(⟨x, .slice ia rows.length ic, rows⟩ : Br)], by have := HK.out; have := HKM.out; omega, HKM.out, congrArg (Value.int .i64) (by omega), congrArg (Value.int .i64) (by omega), by have := HQQ.out; have := HMN.out; omega, by have := HBL.out; simp; omega, by rw [HP2.out, List.map_append]; rfl, HS8.out⟩
theorem func_calls (ts : List Ty) (vt : Value) (fa : Option Addr) (fn fc : Nat) (sn : Nat) (L : List Ln) (v : Value) (w : World) (ht : TysAt w vt ts) (hpt : ∀ t ∈ ts, t.parts.length ≤ 20000) (hl : LinesAt w v L) (hf : FineL L) :
  Calls Tryz.prog 29 #[.agg #[vt, .slice fa fn fc], .int .i64 (sn : Int), v] w (FunR sn (blocksP L (regOf ts sn)) w) := by
 by_cases h : sn < ts.length
 ·exact func_in ts vt fa fn fc sn L v w ht hpt hl hf h
 ·exact func_out ts vt fa fn fc sn L v w ht hl hf h
end Go.Proofs.YtpkgkeclkbidiaaGreatDoor.RdF
