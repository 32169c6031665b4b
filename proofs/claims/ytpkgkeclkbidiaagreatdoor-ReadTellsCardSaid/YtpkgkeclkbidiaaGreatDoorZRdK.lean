/- Walk over fescueref07.kind. -/
import Derived.Test.YtpkgkeclkbidiaaGreatDoorZRgZToRgY
import Derived.Test.YtpkgkeclkbidiaaGreatDoorZRcPToRdQ
import Derived.Test.YtpkgkeclkbidiaaGreatDoorZRdGToRdH
import Derived.Deep.RegionHeld3
namespace Go.Proofs.YtpkgkeclkbidiaaGreatDoor.RdK
open Go.RowKit Go.Lib TyM TyP ShM ShP ShB IntO SetP LxM LxJ LxY RwO RdM RdA RdO RdB RgZ Aft

/-- a type, and whether it is one -/
def KindR (l : List ByteArray) (w : World) (e : Ending) (w' : World) : Prop := ∃ (y : Ty) (pv : Value), e = .returned (.tuple #[tyV y pv, .bool (kindP l).isSome]) ∧ (∀ z, kindP l = some z → y = z) ∧ PartsAt w.heap.size w' pv y.parts ∧ Below w.heap.size w w'
set_option maxRecDepth 100000 in
set_option maxHeartbeats 8000000 in
theorem kind_calls (l : List ByteArray) (v : Value) (w : World) (hl : LxP.StrsAt w v l) (hn : l.length ≤ 100000) (hs : ∀ x ∈ l, x.size ≤ 9223372036854775807) :
  Calls Tryz.prog 27 #[v] w (KindR l w) := by
 obtain ⟨W, hW⟩ : ∃ W, W = w.alloc (.cells #[.int .u8 0, .int .i64 0, .int .i64 0, .slice none 0 0] 57) := ⟨_, rfl⟩
 have HBW : Hid (Below w.heap.size w W) := by show Below _ _ _; rw [hW]; exact alloc_below _ _
 have HN : Hid (W.heap[w.heap.size]? = some (.cells #[.int .u8 0, .int .i64 0, .int .i64 0, .slice none 0 0] 57 (0, 0))) := by show _ = _; rw [hW]; exact alloc_new _ _
 have HSZ : Hid (w.heap.size < W.heap.size) := by show _ < _; rw [hW, World.size_alloc]; omega
 have HW := hid hW
 have HL := hid (hl.below HBW.out)
 have HLW := hid hl
 have HS := hid hs
 obtain ⟨ao, cap, rfl, hll⟩ := hl.slice
 have HD : Hid (kindP l = if l.length = 0 then none
  else if un (l.getD 0 ⟨#[]⟩) = [97, 114, 114, 97, 121] then
   (if l.length = 3 ∧ (mkN (l.getD 1 ⟨#[]⟩) 116).2 = 0 ∧ (NumG.sm (un (l.getD 2 ⟨#[]⟩)) 999).2 = 0 then some ⟨5, (mkN (l.getD 1 ⟨#[]⟩) 116).1, (NumG.sm (un (l.getD 2 ⟨#[]⟩)) 999).1, []⟩ else none)
  else match marksO 116 (l.drop 1) with
   | none => none
   | some r =>
    if un (l.getD 0 ⟨#[]⟩) = [105, 110, 116] then (if r.length = 0 then some ⟨1, 0, 0, []⟩ else none)
    else if un (l.getD 0 ⟨#[]⟩) = [112, 116, 114] then (if r.length = 1 then some ⟨2, r.getD 0 0, 0, []⟩ else none)
    else if un (l.getD 0 ⟨#[]⟩) = [102, 110] then (if 1 ≤ r.length then some ⟨3, r.getD 0 0, 0, r.drop 1⟩ else none)
    else if un (l.getD 0 ⟨#[]⟩) = [115, 116, 114, 117, 99, 116] then some ⟨4, 0, 0, r⟩
    else none) := rfl
 clear hl hW hs
 by_cases hl0 : l.length = 0
 ·rw [if_pos hl0] at HD
  have hz : ((l.length : Int) == 0) = true := by rw [hl0]; rfl
  clear hl0 HL HLW HS HN HSZ
  generalize l.length = ln at *
  go_enter Tryz.func27, Tryz.ntmps27
  go_wp2
  (try simp only [Exit.inBlock, Exit.then])
  refine bodyPost_ret (by simp [results, Tryz.results27, go_sem]; try rfl) rfl ?_
  exact ⟨⟨0, 0, 0, []⟩, .slice none 0 0, by rw [HD.out]; rfl, (fun y h => by rw [HD.out] at h; cases h), parts_none _ _, by rw [← HW.out]; exact HBW.out⟩
 rw [if_neg hl0] at HD
 have h1 : 1 ≤ l.length := by omega
 have hz : ((l.length : Int) == 0) = false := by rw [beq_eq_false_iff_ne]; omega
 obtain ⟨b, off, rfl, c0⟩ := word_at HLW.out 0 h1
 rw [Nat.add_zero] at c0
 have hbw : b < w.heap.size := World.block_lt_of_cell? w _ c0
 have d0 := later ((HBW.out.cell (p := ⟨b, off, none⟩) hbw).trans c0)
 have h0 := Aft.refl W
 have hlp : (0 : Int) < l.length := by omega
 have e0 := str_eq (l.getD 0 ⟨#[]⟩) [97, 114, 114, 97, 121]
 by_cases ha : un (l.getD 0 ⟨#[]⟩) = [97, 114, 114, 97, 121]
 ·rw [if_pos ha] at HD
  rw [decide_eq_true ha] at e0
  clear ha
  by_cases h3 : l.length = 3
  rotate_left
  ·rw [if_neg (fun h => h3 h.1)] at HD
   have hz3 : ((l.length : Int) != 3) = true := by simp; omega
   clear h3 HL HLW HS HN HSZ hl0
   generalize l.getD 0 ⟨#[]⟩ = s0 at *
   generalize l.length = ln at *
   go_enter Tryz.func27, Tryz.ntmps27
   go_wp2
   (try simp only [Exit.inBlock, Exit.then])
   refine bodyPost_ret (by simp [results, Tryz.results27, go_sem]; try rfl) rfl ?_
   exact ⟨⟨0, 0, 0, []⟩, .slice none 0 0, by rw [HD.out]; rfl, (fun y h => by rw [HD.out] at h; cases h), parts_none _ _, by rw [← HW.out]; exact HBW.out⟩
  obtain ⟨b1, off1, hbb, c1⟩ := word_at HLW.out 1 (by omega)
  cases hbb
  obtain ⟨b2, off2, hbb, c2⟩ := word_at HLW.out 2 (by omega)
  cases hbb
  have d2 := later ((HBW.out.cell (p := ⟨b, off + 2, none⟩) hbw).trans c2)
  have HMK := hid (markR_calls (l.getD 1 ⟨#[]⟩) (HS.out _ (by rw [List.getD_eq_getElem?_getD, List.getElem?_eq_getElem (by omega : 1 < l.length)]; exact List.getElem_mem _)) 116 W)
  have HSM := hid (fun wx => NumH.ref_small_calls (l.getD 2 ⟨#[]⟩) (HS.out _ (by rw [List.getD_eq_getElem?_getD, List.getElem?_eq_getElem (by omega : 2 < l.length)]; exact List.getElem_mem _)) 999 wx)
  rw [show (((116 : UInt8).toNat : Nat) : Int) = 116 from rfl] at HMK
  unfold MkR at HMK
  unfold NumG.SmPost at HSM
  unfold un at HD
  clear c2 HL HLW HS hl0
  generalize l.getD 0 ⟨#[]⟩ = s0 at *
  generalize l.getD 1 ⟨#[]⟩ = s1 at *
  generalize l.getD 2 ⟨#[]⟩ = s2 at *
  generalize mkN s1 116 = p1 at *
  generalize NumG.sm s2.data.toList 999 = p2 at *
  obtain ⟨q1, e1⟩ := p1
  obtain ⟨q2, e2⟩ := p2
  simp only at HMK HSM HD
  have hd : (if l.length = 3 ∧ e1 = 0 ∧ e2 = 0 then some (⟨5, q1, q2, []⟩ : Ty) else none) = if (e1 == 0 && e2 == 0) = true then some ⟨5, q1, q2, []⟩ else none := by
   simp [h3]
  rw [hd] at HD
  clear hd
  generalize l.length = ln at *
  subst h3
  go_enter Tryz.func27, Tryz.ntmps27
  go_wp2_with fail
  rw [← HW.out]
  refine HMK.out.mono ?_
  rintro e w1 ⟨rfl, hb1⟩
  have h2 := h0.go hb1
  have HSS := hid (HSM.out w1)
  clear hb1 HMK HSM
  go_wp2_with fail
  refine HSS.out.mono ?_
  rintro e w2 ⟨rfl, hb2⟩
  have h3 := h2.go hb2
  clear hb2 HSS
  cases f1 : (e1 == 0) with
  | false =>
   rw [f1] at HD
   rw [if_neg (by simp)] at HD
   have hn := aft_heap h3 HN.out
   have y0 := cells_of hn 0 _ rfl
   have y1 := cells_of hn 1 _ rfl
   have y2 := cells_of hn 2 _ rfl
   have y3 := cells_of hn 3 _ rfl
   have z0 := (ShTB.cells_heap hn).2 0
   have z1 := (ShTB.cells_heap hn).2 1
   have z2 := (ShTB.cells_heap hn).2 2
   have z3 := (ShTB.cells_heap hn).2 3
   obtain ⟨W3, hW3, hne3, hk3, hb3⟩ := set4_world w2 w.heap.size 57 (.int .u8 0) (.int .i64 0) (.int .i64 0) (.slice none 0 0) (.int .u8 5) (.int .i64 q1) (.int .i64 q2) (.slice none 0 0) hn
   have HW3 := hid hW3
   have HB3 := hid (hb3 _ _ (h3.out HBW.out) (Nat.le_refl _))
   have x0 := cells_of hk3 0 _ rfl
   have x1 := cells_of hk3 1 _ rfl
   have x2 := cells_of hk3 2 _ rfl
   have x3 := cells_of hk3 3 _ rfl
   clear hn hW3 hk3 hb3 hne3
   go_wp2
   (try simp only [Exit.inBlock, Exit.then])
   rw [← HW3.out]
   refine bodyPost_ret (by simp [results, Tryz.results27, go_sem, x0, x1, x2, x3]; try rfl) rfl ?_
   exact ⟨⟨5, q1, q2, []⟩, .slice none 0 0, by rw [HD.out]; rfl, (fun y h => by rw [HD.out] at h; cases h), parts_none _ _, HB3.out⟩
  | true =>
  cases f2 : (e2 == 0) with
  | false =>
   rw [f1, f2] at HD
   rw [if_neg (by simp)] at HD
   have hn := aft_heap h3 HN.out
   have y0 := cells_of hn 0 _ rfl
   have y1 := cells_of hn 1 _ rfl
   have y2 := cells_of hn 2 _ rfl
   have y3 := cells_of hn 3 _ rfl
   have z0 := (ShTB.cells_heap hn).2 0
   have z1 := (ShTB.cells_heap hn).2 1
   have z2 := (ShTB.cells_heap hn).2 2
   have z3 := (ShTB.cells_heap hn).2 3
   obtain ⟨W3, hW3, hne3, hk3, hb3⟩ := set4_world w2 w.heap.size 57 (.int .u8 0) (.int .i64 0) (.int .i64 0) (.slice none 0 0) (.int .u8 5) (.int .i64 q1) (.int .i64 q2) (.slice none 0 0) hn
   have HW3 := hid hW3
   have HB3 := hid (hb3 _ _ (h3.out HBW.out) (Nat.le_refl _))
   have x0 := cells_of hk3 0 _ rfl
   have x1 := cells_of hk3 1 _ rfl
   have x2 := cells_of hk3 2 _ rfl
   have x3 := cells_of hk3 3 _ rfl
   clear hn hW3 hk3 hb3 hne3
   go_wp2
   (try simp only [Exit.inBlock, Exit.then])
   rw [← HW3.out]
   refine bodyPost_ret (by simp [results, Tryz.results27, go_sem, x0, x1, x2, x3]; try rfl) rfl ?_
   exact ⟨⟨5, q1, q2, []⟩, .slice none 0 0, by rw [HD.out]; rfl, (fun y h => by rw [HD.out] at h; cases h), parts_none _ _, HB3.out⟩
  | true =>
   rw [f1, f2] at HD
   rw [if_pos (show (true && true) = true from rfl)] at HD
   have hn := aft_heap h3 HN.out
   have y0 := cells_of hn 0 _ rfl
   have y1 := cells_of hn 1 _ rfl
   have y2 := cells_of hn 2 _ rfl
   have y3 := cells_of hn 3 _ rfl
   have z0 := (ShTB.cells_heap hn).2 0
   have z1 := (ShTB.cells_heap hn).2 1
   have z2 := (ShTB.cells_heap hn).2 2
   have z3 := (ShTB.cells_heap hn).2 3
   obtain ⟨W3, hW3, hne3, hk3, hb3⟩ := set4_world w2 w.heap.size 57 (.int .u8 0) (.int .i64 0) (.int .i64 0) (.slice none 0 0) (.int .u8 5) (.int .i64 q1) (.int .i64 q2) (.slice none 0 0) hn
   have HW3 := hid hW3
   have HB3 := hid (hb3 _ _ (h3.out HBW.out) (Nat.le_refl _))
   have x0 := cells_of hk3 0 _ rfl
   have x1 := cells_of hk3 1 _ rfl
   have x2 := cells_of hk3 2 _ rfl
   have x3 := cells_of hk3 3 _ rfl
   clear hn hW3 hk3 hb3 hne3
   go_wp2
   (try simp only [Exit.inBlock, Exit.then])
   rw [← HW3.out]
   refine bodyPost_ret (by simp [results, Tryz.results27, go_sem, x0, x1, x2, x3]; try rfl) rfl ?_
   exact ⟨⟨5, q1, q2, []⟩, .slice none 0 0, by rw [HD.out]; rfl, (fun y h => by rw [HD.out] at h; exact Option.some.inj h), parts_none _ _, HB3.out⟩
 rw [if_neg ha] at HD
 rw [decide_eq_false ha] at e0
 clear ha
 obtain ⟨v1, hv1, hr1'⟩ := strs_drop HL.out (k := 1) h1
 have hr1 : ∀ wx : World, (Instr.slice 48 (.slice (some ⟨b, off, none⟩) l.length cap) (some (.int .i64 1)) none none).run Tryz.prog wx = .ok v1 wx := hr1'
 have HM1 := hid (marks_calls 116 (l.drop 1) v1 W hv1 (by simp; omega) (fun x hx => HS.out x (List.mem_of_mem_drop hx)))
 rw [show (((116 : UInt8).toNat : Nat) : Int) = 116 from rfl] at HM1
 have e1 := str_eq (l.getD 0 ⟨#[]⟩) [105, 110, 116]
 have e2 := str_eq (l.getD 0 ⟨#[]⟩) [112, 116, 114]
 have e3 := str_eq (l.getD 0 ⟨#[]⟩) [102, 110]
 have e4 := str_eq (l.getD 0 ⟨#[]⟩) [115, 116, 114, 117, 99, 116]
 obtain ⟨sl1, cap1, rfl, _⟩ := hv1.slice
 clear hr1' hv1 HL HLW HS hl0
 generalize l.getD 0 ⟨#[]⟩ = s0 at *
 generalize (l.drop 1).length = n1 at *
 go_enter Tryz.func27, Tryz.ntmps27
 generalize l.length = ln at *
 go_wp2_with fail
 rw [← HW.out]
 refine HM1.out.mono ?_
 rintro e w1 ⟨u, xs, rfl, hown, hsome, hnone, hb1⟩
 have h2 := h0.go hb1
 obtain ⟨ua, uc, rfl⟩ := own_slice hown
 have HOWN := hid hown
 have HSM := hid hsome
 have HNO := hid hnone
 have HA2 := hid h2
 clear hb1 hown hsome hnone HM1 h2
 cases hm : marksO 116 (l.drop 1) with
 | none =>
  rw [hm] at HD
  have hxs := HNO.out hm
  subst hxs
  clear hm HSM HNO
  by_cases t1 : un s0 = [105, 110, 116]
  ·rw [decide_eq_true t1] at e1
   clear t1
   have h2 := HA2.out
   have hn := aft_heap h2 HN.out
   have y0 := cells_of hn 0 _ rfl
   have y1 := cells_of hn 1 _ rfl
   have y2 := cells_of hn 2 _ rfl
   have y3 := cells_of hn 3 _ rfl
   have z0 := (ShTB.cells_heap hn).2 0
   have z1 := (ShTB.cells_heap hn).2 1
   have z2 := (ShTB.cells_heap hn).2 2
   have z3 := (ShTB.cells_heap hn).2 3
   obtain ⟨W3, hW3, hne3, hk3, hb3⟩ := set4_world w1 w.heap.size 57 (.int .u8 0) (.int .i64 0) (.int .i64 0) (.slice none 0 0) (.int .u8 1) (.int .i64 0) (.int .i64 0) (.slice none 0 0) hn
   have HW3 := hid hW3
   have HB3 := hid (hb3 _ _ (h2.out HBW.out) (Nat.le_refl _))
   have x0 := cells_of hk3 0 _ rfl
   have x1 := cells_of hk3 1 _ rfl
   have x2 := cells_of hk3 2 _ rfl
   have x3 := cells_of hk3 3 _ rfl
   clear hn hW3 hk3 hb3 hne3
   go_wp2
   (try simp only [Exit.inBlock, Exit.then])
   rw [← HW3.out]
   refine bodyPost_ret (by simp [results, Tryz.results27, go_sem, x0, x1, x2, x3]; try rfl) rfl ?_
   exact ⟨⟨1, 0, 0, []⟩, .slice none 0 0, by rw [HD.out]; rfl, (fun y h => by rw [HD.out] at h; cases h), parts_none _ _, HB3.out⟩
  rw [decide_eq_false t1] at e1
  clear t1
  by_cases t2 : un s0 = [112, 116, 114]
  ·rw [decide_eq_true t2] at e2
   clear t2
   have h2 := HA2.out
   have hn := aft_heap h2 HN.out
   have y0 := cells_of hn 0 _ rfl
   have y1 := cells_of hn 1 _ rfl
   have y2 := cells_of hn 2 _ rfl
   have y3 := cells_of hn 3 _ rfl
   have z0 := (ShTB.cells_heap hn).2 0
   have z1 := (ShTB.cells_heap hn).2 1
   have z2 := (ShTB.cells_heap hn).2 2
   have z3 := (ShTB.cells_heap hn).2 3
   obtain ⟨W3, hW3, hne3, hk3, hb3⟩ := set4_world w1 w.heap.size 57 (.int .u8 0) (.int .i64 0) (.int .i64 0) (.slice none 0 0) (.int .u8 0) (.int .i64 0) (.int .i64 0) (.slice none 0 0) hn
   have HW3 := hid hW3
   have HB3 := hid (hb3 _ _ (h2.out HBW.out) (Nat.le_refl _))
   have x0 := cells_of hk3 0 _ rfl
   have x1 := cells_of hk3 1 _ rfl
   have x2 := cells_of hk3 2 _ rfl
   have x3 := cells_of hk3 3 _ rfl
   clear hn hW3 hk3 hb3 hne3
   go_wp2
   (try simp only [Exit.inBlock, Exit.then])
   rw [← HW3.out]
   refine bodyPost_ret (by simp [results, Tryz.results27, go_sem, x0, x1, x2, x3]; try rfl) rfl ?_
   exact ⟨⟨0, 0, 0, []⟩, .slice none 0 0, by rw [HD.out]; rfl, (fun y h => by rw [HD.out] at h; cases h), parts_none _ _, HB3.out⟩
  rw [decide_eq_false t2] at e2
  clear t2
  by_cases t3 : un s0 = [102, 110]
  ·rw [decide_eq_true t3] at e3
   clear t3
   have h2 := HA2.out
   have hn := aft_heap h2 HN.out
   have y0 := cells_of hn 0 _ rfl
   have y1 := cells_of hn 1 _ rfl
   have y2 := cells_of hn 2 _ rfl
   have y3 := cells_of hn 3 _ rfl
   have z0 := (ShTB.cells_heap hn).2 0
   have z1 := (ShTB.cells_heap hn).2 1
   have z2 := (ShTB.cells_heap hn).2 2
   have z3 := (ShTB.cells_heap hn).2 3
   obtain ⟨W3, hW3, hne3, hk3, hb3⟩ := set4_world w1 w.heap.size 57 (.int .u8 0) (.int .i64 0) (.int .i64 0) (.slice none 0 0) (.int .u8 0) (.int .i64 0) (.int .i64 0) (.slice none 0 0) hn
   have HW3 := hid hW3
   have HB3 := hid (hb3 _ _ (h2.out HBW.out) (Nat.le_refl _))
   have x0 := cells_of hk3 0 _ rfl
   have x1 := cells_of hk3 1 _ rfl
   have x2 := cells_of hk3 2 _ rfl
   have x3 := cells_of hk3 3 _ rfl
   clear hn hW3 hk3 hb3 hne3
   go_wp2
   (try simp only [Exit.inBlock, Exit.then])
   rw [← HW3.out]
   refine bodyPost_ret (by simp [results, Tryz.results27, go_sem, x0, x1, x2, x3]; try rfl) rfl ?_
   exact ⟨⟨0, 0, 0, []⟩, .slice none 0 0, by rw [HD.out]; rfl, (fun y h => by rw [HD.out] at h; cases h), parts_none _ _, HB3.out⟩
  rw [decide_eq_false t3] at e3
  clear t3
  by_cases t4 : un s0 = [115, 116, 114, 117, 99, 116]
  ·rw [decide_eq_true t4] at e4
   clear t4
   have h2 := HA2.out
   have hn := aft_heap h2 HN.out
   have y0 := cells_of hn 0 _ rfl
   have y1 := cells_of hn 1 _ rfl
   have y2 := cells_of hn 2 _ rfl
   have y3 := cells_of hn 3 _ rfl
   have z0 := (ShTB.cells_heap hn).2 0
   have z1 := (ShTB.cells_heap hn).2 1
   have z2 := (ShTB.cells_heap hn).2 2
   have z3 := (ShTB.cells_heap hn).2 3
   obtain ⟨W3, hW3, hne3, hk3, hb3⟩ := set4_world w1 w.heap.size 57 (.int .u8 0) (.int .i64 0) (.int .i64 0) (.slice none 0 0) (.int .u8 4) (.int .i64 0) (.int .i64 0) (.slice ua 0 uc) hn
   have HW3 := hid hW3
   have HB3 := hid (hb3 _ _ (h2.out HBW.out) (Nat.le_refl _))
   have HPA := hid ((parts_set ((parts_of HOWN.out (Nat.le_refl _))) HSZ.out hne3 (hb3 0 w1 (Below.refl _ _) (by omega)).size hn).base (C := w.heap.size) (by have := HSZ.out; omega))
   have x0 := cells_of hk3 0 _ rfl
   have x1 := cells_of hk3 1 _ rfl
   have x2 := cells_of hk3 2 _ rfl
   have x3 := cells_of hk3 3 _ rfl
   clear hn hW3 hk3 hb3 hne3
   go_wp2
   (try simp only [Exit.inBlock, Exit.then])
   rw [← HW3.out]
   refine bodyPost_ret (by simp [results, Tryz.results27, go_sem, x0, x1, x2, x3]; try rfl) rfl ?_
   exact ⟨⟨4, 0, 0, []⟩, .slice ua 0 uc, by rw [HD.out]; rfl, (fun y h => by rw [HD.out] at h; cases h), HPA.out, HB3.out⟩
  rw [decide_eq_false t4] at e4
  clear t4
  have h2 := HA2.out
  have hn := aft_heap h2 HN.out
  have y0 := cells_of hn 0 _ rfl
  have y1 := cells_of hn 1 _ rfl
  have y2 := cells_of hn 2 _ rfl
  have y3 := cells_of hn 3 _ rfl
  have z0 := (ShTB.cells_heap hn).2 0
  have z1 := (ShTB.cells_heap hn).2 1
  have z2 := (ShTB.cells_heap hn).2 2
  have z3 := (ShTB.cells_heap hn).2 3
  obtain ⟨W3, hW3, hne3, hk3, hb3⟩ := set4_world w1 w.heap.size 57 (.int .u8 0) (.int .i64 0) (.int .i64 0) (.slice none 0 0) (.int .u8 0) (.int .i64 0) (.int .i64 0) (.slice none 0 0) hn
  have HW3 := hid hW3
  have HB3 := hid (hb3 _ _ (h2.out HBW.out) (Nat.le_refl _))
  have x0 := cells_of hk3 0 _ rfl
  have x1 := cells_of hk3 1 _ rfl
  have x2 := cells_of hk3 2 _ rfl
  have x3 := cells_of hk3 3 _ rfl
  clear hn hW3 hk3 hb3 hne3
  go_wp2
  (try simp only [Exit.inBlock, Exit.then])
  rw [← HW3.out]
  refine bodyPost_ret (by simp [results, Tryz.results27, go_sem, x0, x1, x2, x3]; try rfl) rfl ?_
  exact ⟨⟨0, 0, 0, []⟩, .slice none 0 0, by rw [HD.out]; rfl, (fun y h => by rw [HD.out] at h; cases h), parts_none _ _, HB3.out⟩
 | some r =>
  rw [hm] at HD
  have hxs := HSM.out r hm
  subst hxs
  clear hm HSM HNO
  simp only at HD
  by_cases t1 : un s0 = [105, 110, 116]
  ·rw [decide_eq_true t1] at e1
   rw [if_pos t1] at HD
   clear t1
   have h2 := HA2.out
   by_cases hx : xs.length = 0
   ·rw [if_pos hx] at HD
    have hx2 : ((xs.length : Int) == 0) = true := by rw [hx]; rfl
    clear hx HOWN HSZ
    generalize xs.length = xn at *
    have hn := aft_heap h2 HN.out
    have y0 := cells_of hn 0 _ rfl
    have y1 := cells_of hn 1 _ rfl
    have y2 := cells_of hn 2 _ rfl
    have y3 := cells_of hn 3 _ rfl
    have z0 := (ShTB.cells_heap hn).2 0
    have z1 := (ShTB.cells_heap hn).2 1
    have z2 := (ShTB.cells_heap hn).2 2
    have z3 := (ShTB.cells_heap hn).2 3
    obtain ⟨W3, hW3, hne3, hk3, hb3⟩ := set4_world w1 w.heap.size 57 (.int .u8 0) (.int .i64 0) (.int .i64 0) (.slice none 0 0) (.int .u8 1) (.int .i64 0) (.int .i64 0) (.slice none 0 0) hn
    have HW3 := hid hW3
    have HB3 := hid (hb3 _ _ (h2.out HBW.out) (Nat.le_refl _))
    have x0 := cells_of hk3 0 _ rfl
    have x1 := cells_of hk3 1 _ rfl
    have x2 := cells_of hk3 2 _ rfl
    have x3 := cells_of hk3 3 _ rfl
    clear hn hW3 hk3 hb3 hne3
    go_wp2
    (try simp only [Exit.inBlock, Exit.then])
    rw [← HW3.out]
    refine bodyPost_ret (by simp [results, Tryz.results27, go_sem, x0, x1, x2, x3]; try rfl) rfl ?_
    exact ⟨⟨1, 0, 0, []⟩, .slice none 0 0, by rw [HD.out]; rfl, (fun y h => by rw [HD.out] at h; exact Option.some.inj h), parts_none _ _, HB3.out⟩
   ·rw [if_neg hx] at HD
    have hx2 : ((xs.length : Int) == 0) = false := by rw [beq_eq_false_iff_ne]; omega
    clear hx HOWN HSZ
    generalize xs.length = xn at *
    have hn := aft_heap h2 HN.out
    have y0 := cells_of hn 0 _ rfl
    have y1 := cells_of hn 1 _ rfl
    have y2 := cells_of hn 2 _ rfl
    have y3 := cells_of hn 3 _ rfl
    have z0 := (ShTB.cells_heap hn).2 0
    have z1 := (ShTB.cells_heap hn).2 1
    have z2 := (ShTB.cells_heap hn).2 2
    have z3 := (ShTB.cells_heap hn).2 3
    obtain ⟨W3, hW3, hne3, hk3, hb3⟩ := set4_world w1 w.heap.size 57 (.int .u8 0) (.int .i64 0) (.int .i64 0) (.slice none 0 0) (.int .u8 1) (.int .i64 0) (.int .i64 0) (.slice none 0 0) hn
    have HW3 := hid hW3
    have HB3 := hid (hb3 _ _ (h2.out HBW.out) (Nat.le_refl _))
    have x0 := cells_of hk3 0 _ rfl
    have x1 := cells_of hk3 1 _ rfl
    have x2 := cells_of hk3 2 _ rfl
    have x3 := cells_of hk3 3 _ rfl
    clear hn hW3 hk3 hb3 hne3
    go_wp2
    (try simp only [Exit.inBlock, Exit.then])
    rw [← HW3.out]
    refine bodyPost_ret (by simp [results, Tryz.results27, go_sem, x0, x1, x2, x3]; try rfl) rfl ?_
    exact ⟨⟨1, 0, 0, []⟩, .slice none 0 0, by rw [HD.out]; rfl, (fun y h => by rw [HD.out] at h; cases h), parts_none _ _, HB3.out⟩
  rw [decide_eq_false t1] at e1
  rw [if_neg t1] at HD
  clear t1
  by_cases t2 : un s0 = [112, 116, 114]
  ·rw [decide_eq_true t2] at e2
   rw [if_pos t2] at HD
   clear t2
   have h2 := HA2.out
   by_cases hx : xs.length = 1
   ·obtain ⟨t, rfl⟩ := one_of hx
    rw [if_pos (show [t].length = 1 from rfl)] at HD
    obtain ⟨g, cap2, hg, _, _, _, hc⟩ := TyW.row_cells HOWN.out (by rw [intVals_length]; exact Nat.zero_lt_one)
    cases hg
    have c1 := hc 0 (.int .i64 t) rfl
    clear hc hx HOWN HSZ
    have hn := aft_heap h2 HN.out
    have y0 := cells_of hn 0 _ rfl
    have y1 := cells_of hn 1 _ rfl
    have y2 := cells_of hn 2 _ rfl
    have y3 := cells_of hn 3 _ rfl
    have z0 := (ShTB.cells_heap hn).2 0
    have z1 := (ShTB.cells_heap hn).2 1
    have z2 := (ShTB.cells_heap hn).2 2
    have z3 := (ShTB.cells_heap hn).2 3
    obtain ⟨W3, hW3, hne3, hk3, hb3⟩ := set4_world w1 w.heap.size 57 (.int .u8 0) (.int .i64 0) (.int .i64 0) (.slice none 0 0) (.int .u8 2) (.int .i64 t) (.int .i64 0) (.slice none 0 0) hn
    have HW3 := hid hW3
    have HB3 := hid (hb3 _ _ (h2.out HBW.out) (Nat.le_refl _))
    have x0 := cells_of hk3 0 _ rfl
    have x1 := cells_of hk3 1 _ rfl
    have x2 := cells_of hk3 2 _ rfl
    have x3 := cells_of hk3 3 _ rfl
    clear hn hW3 hk3 hb3 hne3
    go_wp2
    (try simp only [Exit.inBlock, Exit.then])
    rw [← HW3.out]
    refine bodyPost_ret (by simp [results, Tryz.results27, go_sem, x0, x1, x2, x3]; try rfl) rfl ?_
    exact ⟨⟨2, t, 0, []⟩, .slice none 0 0, by rw [HD.out]; rfl, (fun y h => by rw [HD.out] at h; exact Option.some.inj h), parts_none _ _, HB3.out⟩
   ·rw [if_neg hx] at HD
    have hx2 : ((xs.length : Int) != 1) = true := by rw [bne_iff_ne]; omega
    clear hx HOWN HSZ
    generalize xs.length = xn at *
    have hn := aft_heap h2 HN.out
    have y0 := cells_of hn 0 _ rfl
    have y1 := cells_of hn 1 _ rfl
    have y2 := cells_of hn 2 _ rfl
    have y3 := cells_of hn 3 _ rfl
    have z0 := (ShTB.cells_heap hn).2 0
    have z1 := (ShTB.cells_heap hn).2 1
    have z2 := (ShTB.cells_heap hn).2 2
    have z3 := (ShTB.cells_heap hn).2 3
    obtain ⟨W3, hW3, hne3, hk3, hb3⟩ := set4_world w1 w.heap.size 57 (.int .u8 0) (.int .i64 0) (.int .i64 0) (.slice none 0 0) (.int .u8 0) (.int .i64 0) (.int .i64 0) (.slice none 0 0) hn
    have HW3 := hid hW3
    have HB3 := hid (hb3 _ _ (h2.out HBW.out) (Nat.le_refl _))
    have x0 := cells_of hk3 0 _ rfl
    have x1 := cells_of hk3 1 _ rfl
    have x2 := cells_of hk3 2 _ rfl
    have x3 := cells_of hk3 3 _ rfl
    clear hn hW3 hk3 hb3 hne3
    go_wp2
    (try simp only [Exit.inBlock, Exit.then])
    rw [← HW3.out]
    refine bodyPost_ret (by simp [results, Tryz.results27, go_sem, x0, x1, x2, x3]; try rfl) rfl ?_
    exact ⟨⟨0, 0, 0, []⟩, .slice none 0 0, by rw [HD.out]; rfl, (fun y h => by rw [HD.out] at h; cases h), parts_none _ _, HB3.out⟩
  rw [decide_eq_false t2] at e2
  rw [if_neg t2] at HD
  clear t2
  by_cases t3 : un s0 = [102, 110]
  ·rw [decide_eq_true t3] at e3
   rw [if_pos t3] at HD
   clear t3
   have h2 := HA2.out
   by_cases hx : 1 ≤ xs.length
   ·obtain ⟨t, r, rfl⟩ := more_of hx
    rw [if_pos hx] at HD
    obtain ⟨g, cap2, hg, _, _, _, hc⟩ := TyW.row_cells HOWN.out (by rw [intVals_length]; exact hx)
    cases hg
    have c1 := later (hc 0 (.int .i64 t) rfl)
    obtain ⟨pv, hpv, hrp'⟩ := parts_drop (parts_of HOWN.out (Nat.le_refl _)) (k := 1) hx
    have hrp : ∀ wx : World, (Instr.slice 55 (.slice (some ⟨g, 0, none⟩) (t :: r).length uc) (some (.int .i64 1)) none none).run Tryz.prog wx = .ok pv wx := hrp'
    have hlp2 : (0 : Int) < ((t :: r).length : Nat) := by omega
    have hl1 : ¬ (((t :: r).length : Nat) : Int) < 1 := by omega
    have hxn : 0 < (t :: r).length := hx
    have HPV := hid hpv
    obtain ⟨pva, pvc, rfl, _⟩ := ints_slice hpv.1
    have HHW := hid (Aft.refl w1).drew
    have HHN := hid (aft_heap h2 HN.out)
    clear hc hx HOWN hpv hrp'
    generalize (t :: r).length = xn at *
    go_upto_region 20 with fail
    all_goals (try (exfalso; omega))
    refine wp_region_noPanic ?_
    refine wp_region_Z (S := (fun w' => Aft w1 w')) (Z := [6]) (by kernel_rfl) ?_ (fun hHeld => ?_)
    ·(try dsimp only)
     (exact HHW.out)
    refine zP 0 rfl ?_
    refine zP 1 rfl ?_
    refine zT 2 rfl ?_
    refine zP 3 rfl ?_
    refine zP 4 rfl ?_
    refine zP 5 rfl ?_
    refine zL 6 rfl (fun K hK => ?_)
    have y0 := (ShTB.cells_heap (w := w1.drew) HHN.out).2 0
    have v0 := (ShTB.cells_heap HHN.out).2 0
    have f0 := cells_of (W := w1.drew) HHN.out 0 _ rfl
    have g0 := cells_of HHN.out 0 _ rfl
    have y1 := (ShTB.cells_heap (w := w1.drew) HHN.out).2 1
    have v1 := (ShTB.cells_heap HHN.out).2 1
    have f1 := cells_of (W := w1.drew) HHN.out 1 _ rfl
    have g1 := cells_of HHN.out 1 _ rfl
    have y2 := (ShTB.cells_heap (w := w1.drew) HHN.out).2 2
    have v2 := (ShTB.cells_heap HHN.out).2 2
    have f2 := cells_of (W := w1.drew) HHN.out 2 _ rfl
    have g2 := cells_of HHN.out 2 _ rfl
    have y3 := (ShTB.cells_heap (w := w1.drew) HHN.out).2 3
    have v3 := (ShTB.cells_heap HHN.out).2 3
    have f3 := cells_of (W := w1.drew) HHN.out 3 _ rfl
    have g3 := cells_of HHN.out 3 _ rfl
    go_simp
    refine hK.out _ _ ?_
    clear hK K
    refine zL 7 rfl (fun K hK => ?_)
    go_simp
    refine hK.out _ _ ?_
    clear hK K
    try simp only [Act.put, List.setIfInBounds_toArray, List.set_cons_zero, List.set_cons_succ]
    refine wpAnyZ_done (by kernel_rfl) ?_ _
    refine NoPanic.normal ?_
    obtain ⟨W3, hW3, hne3, hk3, hb3⟩ := set4_worldD w1 w.heap.size 57 _ _ _ _ (.int .u8 3) (.int .i64 t) (.int .i64 0) (.slice pva r.length pvc) HHN.out
    rw [← hW3]
    have HB3 := hid (hb3 _ _ (h2.out HBW.out) (Nat.le_refl _))
    have HPA := hid ((parts_set HPV.out HSZ.out hne3 (hb3 0 w1 (Below.refl _ _) (by omega)).size HHN.out).base (C := w.heap.size) (by have := HSZ.out; omega))
    have x0 := cells_of hk3 0 _ rfl
    have x1 := cells_of hk3 1 _ rfl
    have x2 := cells_of hk3 2 _ rfl
    have x3 := cells_of hk3 3 _ rfl
    clear hW3 hk3 hb3 hne3 y0 y1 y2 y3 v0 v1 v2 v3 f0 f1 f2 f3 g0 g1 g2 g3 HHN
    go_wp2
    (try simp only [Exit.inBlock, Exit.then])
    refine bodyPost_ret (by simp [results, Tryz.results27, go_sem, x0, x1, x2, x3]; try rfl) rfl ?_
    exact ⟨⟨3, t, 0, r⟩, .slice pva r.length pvc, by rw [HD.out]; rfl, (fun y h => by rw [HD.out] at h; exact Option.some.inj h), HPA.out, HB3.out⟩
   ·rw [if_neg hx] at HD
    have hx0 : xs.length = 0 := by omega
    clear hx HOWN HSZ
    generalize xs.length = xn at *
    subst hx0
    have hn := aft_heap h2 HN.out
    have y0 := cells_of hn 0 _ rfl
    have y1 := cells_of hn 1 _ rfl
    have y2 := cells_of hn 2 _ rfl
    have y3 := cells_of hn 3 _ rfl
    have z0 := (ShTB.cells_heap hn).2 0
    have z1 := (ShTB.cells_heap hn).2 1
    have z2 := (ShTB.cells_heap hn).2 2
    have z3 := (ShTB.cells_heap hn).2 3
    obtain ⟨W3, hW3, hne3, hk3, hb3⟩ := set4_world w1 w.heap.size 57 (.int .u8 0) (.int .i64 0) (.int .i64 0) (.slice none 0 0) (.int .u8 0) (.int .i64 0) (.int .i64 0) (.slice none 0 0) hn
    have HW3 := hid hW3
    have HB3 := hid (hb3 _ _ (h2.out HBW.out) (Nat.le_refl _))
    have x0 := cells_of hk3 0 _ rfl
    have x1 := cells_of hk3 1 _ rfl
    have x2 := cells_of hk3 2 _ rfl
    have x3 := cells_of hk3 3 _ rfl
    clear hn hW3 hk3 hb3 hne3
    go_wp2
    (try simp only [Exit.inBlock, Exit.then])
    rw [← HW3.out]
    refine bodyPost_ret (by simp [results, Tryz.results27, go_sem, x0, x1, x2, x3]; try rfl) rfl ?_
    exact ⟨⟨0, 0, 0, []⟩, .slice none 0 0, by rw [HD.out]; rfl, (fun y h => by rw [HD.out] at h; cases h), parts_none _ _, HB3.out⟩
  rw [decide_eq_false t3] at e3
  rw [if_neg t3] at HD
  clear t3
  by_cases t4 : un s0 = [115, 116, 114, 117, 99, 116]
  ·rw [decide_eq_true t4] at e4
   rw [if_pos t4] at HD
   clear t4
   have h2 := HA2.out
   have hxs := own_len HOWN.out
   have hn := aft_heap h2 HN.out
   have y0 := cells_of hn 0 _ rfl
   have y1 := cells_of hn 1 _ rfl
   have y2 := cells_of hn 2 _ rfl
   have y3 := cells_of hn 3 _ rfl
   have z0 := (ShTB.cells_heap hn).2 0
   have z1 := (ShTB.cells_heap hn).2 1
   have z2 := (ShTB.cells_heap hn).2 2
   have z3 := (ShTB.cells_heap hn).2 3
   obtain ⟨W3, hW3, hne3, hk3, hb3⟩ := set4_world w1 w.heap.size 57 (.int .u8 0) (.int .i64 0) (.int .i64 0) (.slice none 0 0) (.int .u8 4) (.int .i64 0) (.int .i64 0) (.slice ua xs.length uc) hn
   have HW3 := hid hW3
   have HB3 := hid (hb3 _ _ (h2.out HBW.out) (Nat.le_refl _))
   have HPA := hid ((parts_set ((parts_of HOWN.out (Nat.le_refl _))) HSZ.out hne3 (hb3 0 w1 (Below.refl _ _) (by omega)).size hn).base (C := w.heap.size) (by have := HSZ.out; omega))
   have x0 := cells_of hk3 0 _ rfl
   have x1 := cells_of hk3 1 _ rfl
   have x2 := cells_of hk3 2 _ rfl
   have x3 := cells_of hk3 3 _ rfl
   clear hn hW3 hk3 hb3 hne3
   go_wp2
   (try simp only [Exit.inBlock, Exit.then])
   rw [← HW3.out]
   refine bodyPost_ret (by simp [results, Tryz.results27, go_sem, x0, x1, x2, x3]; try rfl) rfl ?_
   exact ⟨⟨4, 0, 0, xs⟩, .slice ua xs.length uc, by rw [HD.out]; rfl, (fun y h => by rw [HD.out] at h; exact Option.some.inj h), HPA.out, HB3.out⟩
  rw [decide_eq_false t4] at e4
  rw [if_neg t4] at HD
  clear t4
  have h2 := HA2.out
  clear HOWN HSZ
  generalize xs.length = xn at *
  have hn := aft_heap h2 HN.out
  have y0 := cells_of hn 0 _ rfl
  have y1 := cells_of hn 1 _ rfl
  have y2 := cells_of hn 2 _ rfl
  have y3 := cells_of hn 3 _ rfl
  have z0 := (ShTB.cells_heap hn).2 0
  have z1 := (ShTB.cells_heap hn).2 1
  have z2 := (ShTB.cells_heap hn).2 2
  have z3 := (ShTB.cells_heap hn).2 3
  obtain ⟨W3, hW3, hne3, hk3, hb3⟩ := set4_world w1 w.heap.size 57 (.int .u8 0) (.int .i64 0) (.int .i64 0) (.slice none 0 0) (.int .u8 0) (.int .i64 0) (.int .i64 0) (.slice none 0 0) hn
  have HW3 := hid hW3
  have HB3 := hid (hb3 _ _ (h2.out HBW.out) (Nat.le_refl _))
  have x0 := cells_of hk3 0 _ rfl
  have x1 := cells_of hk3 1 _ rfl
  have x2 := cells_of hk3 2 _ rfl
  have x3 := cells_of hk3 3 _ rfl
  clear hn hW3 hk3 hb3 hne3
  go_wp2
  (try simp only [Exit.inBlock, Exit.then])
  rw [← HW3.out]
  refine bodyPost_ret (by simp [results, Tryz.results27, go_sem, x0, x1, x2, x3]; try rfl) rfl ?_
  exact ⟨⟨0, 0, 0, []⟩, .slice none 0 0, by rw [HD.out]; rfl, (fun y h => by rw [HD.out] at h; cases h), parts_none _ _, HB3.out⟩
end Go.Proofs.YtpkgkeclkbidiaaGreatDoor.RdK
