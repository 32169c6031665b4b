/- Walk over fescuelaw07.ReadShapes. -/
import Derived.Test.YtpkgkeclkbidiaaDoorZRcYToRdNW
namespace Go.Proofs.YtpkgkeclkbidiaaDoor.RdSW
open Go.RowKit Go.Lib RwO SetP IntO TyM TyP TyB ShM ShP ShB LxM LxP LxJ RdM RdV Aft RcP RcO RcT RcY RcZ RdFa
open ShI (POk chkP)

theorem manyF_take {fs : List Fx} {k : Nat} (h : k < fs.length) : manyF (fs.take (k + 1)) = manyF (fs.take k) + (manyL fs[k].blocks + 1) := by
  unfold manyF
  rw [List.take_succ_eq_append_getElem h]
  simp only [List.map_append, List.sum_append, List.map_cons, List.map_nil, List.sum_cons, List.sum_nil, Nat.add_zero]
theorem manyL_take {bs : List Bx} {k : Nat} (h : k < bs.length) : manyL (bs.take (k + 1)) = manyL (bs.take k) + (bs[k].ins.length + 2) := by
  unfold manyL
  rw [List.take_succ_eq_append_getElem h]
  simp only [List.map_append, List.sum_append, List.map_cons, List.map_nil, List.sum_cons, List.sum_nil, Nat.add_zero]
theorem manyF_le (fs : List Fx) (k : Nat) : manyF (fs.take k) ≤ manyF fs := by
  conv => rhs; rw [← List.take_append_drop k fs]
  unfold manyF
  simp only [List.map_append, List.sum_append]
  omega
theorem manyL_le (bs : List Bx) (k : Nat) : manyL (bs.take k) ≤ manyL bs := by
  conv => rhs; rw [← List.take_append_drop k bs]
  unfold manyL
  simp only [List.map_append, List.sum_append]
  omega

set_option maxRecDepth 100000 in
set_option maxHeartbeats 4000000 in
theorem walk (s : ByteArray) (_ : s.size ≤ maxLen) (w : World) (hk : LxK.Tab w) (htab : ShA.Tab w) (hto : TabO w) :
    Calls Tryd.prog 4 #[.string s] w fun e w' => e = .returned (.bool true) ∧ Below w.heap.size w w' := by
  have HAL := hid (RdAl.alive_calls w hk htab hto)
  unfold BoolR at HAL
  have HW := hid (Aft.refl w)
  by_cases h3 : 3000 < s.size
  · have h3' : (3000 : Int) < s.size := by omega
    clear h3
    go_enter Tryd.func4, Tryd.ntmps4
    go_wp2_with fail
    refine HAL.out.mono ?_
    rintro e w1 ⟨rfl, b1⟩
    go_wp2
    go_ret
    exact ⟨rfl, b1⟩
  have h3' : ¬ (3000 : Int) < s.size := by omega
  clear h3
  have HR := hid (fun wx (h : Aft w wx) => read_calls s wx (LxK.tab_on hk h.below) (htab.on h.below) (hto.on h.below))
  have HL := hid (fun wx (h : Aft w wx) => lines_at s wx (LxK.tab_on hk h.below))
  have HT := hid (fun wx (h : Aft w wx) => htab.on h.below)
  have HZ := hid (fun p (h : readO (un s) = (0, p)) => read_zero h)
  have HO := hid (fun e p (h : readO (un s) = (e, p)) => read_off h)
  have HFL := hid (fun h => fine_lines (s := un s) h)
  unfold ReadO at HR
  unfold LnA at HL
  generalize readO (un s) = ro at *
  obtain ⟨er, p⟩ := ro
  simp only at HR
  generalize lnE (un s) = le at *
  generalize mkL (lnT (un s)) = L at *
  clear hk htab hto
  by_cases h0 : er = 0
  rotate_left
  · have hne : (er != 0) = true := by simpa using h0
    obtain rfl : p = px0 := HO.out er p rfl h0
    clear HL HT HZ HO HFL
    go_enter Tryd.func4, Tryd.ntmps4
    go_wp2_with fail
    refine HAL.out.mono ?_
    rintro e w1 ⟨rfl, b1⟩
    have HW1 := hid (HW.out.go b1)
    clear b1 HW HAL
    go_wp2_with fail
    refine (HR.out w1 HW1.out).mono ?_
    rintro e w2 ⟨v, rfl, hp, b2⟩
    obtain ⟨vt, vf, rfl, hvt, hvf⟩ := hp
    obtain ⟨ta, tc, hta⟩ := hvt.slice
    obtain ⟨fa, fc, hfa, _⟩ := hvf.slice
    have hta2 : vt = .slice ta 0 tc := hta
    have hfa2 : vf = .slice fa 0 fc := hfa
    clear hta hfa
    subst hta2
    subst hfa2
    obtain ⟨W3, hW3⟩ : ∃ W3, W3 = w2.alloc (.cells #[.slice ta 0 tc, .slice fa 0 fc] 25) := ⟨_, rfl⟩
    have k3 : W3.heap[w2.heap.size]? = some (.cells #[.slice ta 0 tc, .slice fa 0 fc] 25 (0, 0)) := by rw [hW3]; exact ShB.alloc_new _ _
    have hA3 : Aft w W3 := by rw [hW3]; exact (HW1.out.go b2).alloc _
    have x0 := RdB.cells_of k3 0 _ rfl; have x1 := RdB.cells_of k3 1 _ rfl
    have HW3 := hid hW3
    have HA3 := hid hA3
    clear hW3 hA3 k3 b2 hvt hvf HR
    go_upto_region 5 with fail
    rw [← HW3.out]
    go_wp2
    go_ret
    exact ⟨rfl, HA3.out.below⟩
  subst h0
  obtain ⟨hle, hpp, hck⟩ := HZ.out p rfl
  subst hle
  have hfl := HFL.out rfl
  obtain ⟨hsm, hpo⟩ := prog_ok hfl hpp
  have HPL := hid (program_len hpp)
  have HLL := hid hfl.1
  have HCK := hid (fun wx v (h : Aft w wx) (hp : PrAt wx v p) => ShI.check_calls p v wx hp (HT.out wx h) hsm hpo)
  rw [hck] at HCK
  clear hpp hck hfl hsm hpo HZ HO HFL HT
  unfold NumR at HCK
  go_enter Tryd.func4, Tryd.ntmps4
  go_wp2_with fail
  refine HAL.out.mono ?_
  rintro e w1 ⟨rfl, b1⟩
  have HW1 := hid (HW.out.go b1)
  clear b1 HW HAL
  go_wp2_with fail
  refine (HR.out w1 HW1.out).mono ?_
  rintro e w2 ⟨v, rfl, hp, b2⟩
  have HPR := hid hp
  obtain ⟨vt, vf, rfl, hvt, hvf⟩ := hp
  obtain ⟨ta, tc, rfl⟩ := hvt.slice
  obtain ⟨fa, fc, rfl, _⟩ := hvf.slice
  obtain ⟨W3, hW3⟩ : ∃ W3, W3 = w2.alloc (.cells #[.slice ta p.types.length tc, .slice fa p.funcs.length fc] 25) := ⟨_, rfl⟩
  have k3 : W3.heap[w2.heap.size]? = some (.cells #[.slice ta p.types.length tc, .slice fa p.funcs.length fc] 25 (0, 0)) := by rw [hW3]; exact ShB.alloc_new _ _
  have hA3 : Aft w W3 := by rw [hW3]; exact (HW1.out.go b2).alloc _
  have h23 : Aft w2 W3 := by rw [hW3]; exact (Aft.refl w2).alloc _
  have x0 := RdB.cells_of k3 0 _ rfl; have x1 := RdB.cells_of k3 1 _ rfl
  have HF3 := hid (hvf.below fnStays h23.below)
  have HP3 := hid (HPR.out.below h23.below)
  have HW3 := hid hW3
  have HA3 := hid hA3
  have hcl := HL.out W3 hA3
  have HLC := hid hcl
  clear hW3 hA3 k3 b2 hvt hvf HR HPR HL hcl h23
  go_upto_region 5 with fail
  rw [← HW3.out]
  clear HW3
  go_wp2_with fail
  go_loopg [6, 7] p.funcs.length (fun gk nv iv wr => ∃ k : Nat, k + gk = p.funcs.length ∧ nv = .int .i64 ((p.types.length + manyF (p.funcs.take k) : Nat) : Int) ∧ iv = .int .i64 k ∧ wr = W3)
  case atStart => exact ⟨0, by omega, by simp [manyF], rfl, rfl⟩
  case round =>
    obtain ⟨k, hk, rfl, rfl, hwr⟩ := hrel
    have HK := hid hk
    have HMF := hid (manyF_le p.funcs k)
    rw [hwr]
    clear hwr
    by_cases hlt : k < p.funcs.length
    · obtain ⟨fb, foff, rfl, hfb, vb, c0, c1, hbl⟩ := HF3.out.at k hlt
      have HMT := hid (manyF_take hlt)
      have HMF2 := hid (manyF_le p.funcs (k + 1))
      clear hk c0
      generalize p.funcs[k] = x at *
      obtain ⟨ba, bc, rfl, hbll⟩ := hbl.slice
      have HBL := hid hbl
      clear hbl
      generalize hn0 : p.types.length + manyF (p.funcs.take k) = n0 at *
      have HN0 := hid hn0
      have hwn : IntKind.i64.wrap ((n0 : Int) + 1) = ((n0 + 1 : Nat) : Int) := by rw [IntWalk.i64_in _ (by have := HMF.out; have := HPL.out; have := HLL.out; omega)]; omega
      clear hn0
      obtain ⟨go, hgo⟩ : ∃ go : Nat, go = gk := ⟨gk, rfl⟩
      subst hgo
      go_wp2_with fail
      go_loopg [6, 8] x.blocks.length (fun gq nv qv wr => ∃ q : Nat, q + gq = x.blocks.length ∧ nv = .int .i64 ((n0 + 1 + manyL (x.blocks.take q) : Nat) : Int) ∧ qv = .int .i64 q ∧ wr = W3)
      case atStart => exact ⟨0, by omega, by simp [manyL], rfl, rfl⟩
      case round =>
        obtain ⟨q, hq, rfl, rfl, hwq⟩ := hrel
        have HQ := hid hq
        rw [hwq]
        clear hwq
        by_cases hql : q < x.blocks.length
        · obtain ⟨bb, boff, hba, hbb, vi, b0, _, _, _, _, hins⟩ := HBL.out.at q hql
          subst hba
          have HQT := hid (manyL_take hql)
          have HQL := hid (manyL_le x.blocks (q + 1))
          clear hq
          generalize x.blocks[q] = y at *
          obtain ⟨ia, ic, rfl, hill⟩ := hins.slice
          generalize hn1 : n0 + 1 + manyL (x.blocks.take q) = n1 at *
          have HN1 := hid hn1
          have hb1 : n1 + 2 + y.ins.length ≤ 30000 := by have := HMF2.out; have := HPL.out; have := HLL.out; have := HQT.out; have := HQL.out; have := HN0.out; have := HMT.out; omega
          have hw1 : IntKind.i64.wrap ((n1 : Int) + 2) = (n1 : Int) + 2 := IntWalk.i64_in _ (by omega)
          have hw2 : IntKind.i64.wrap ((n1 : Int) + 2 + (y.ins.length : Int)) = (n1 : Int) + 2 + (y.ins.length : Int) := IntWalk.i64_in _ (by omega)
          have HB1 := hid hb1
          clear hn1 hins hb1
          go_wp2
          go_roundg (gk - 1)
          case measure => have := HQ.out; omega
          case rel => exact ⟨q + 1, by have := HQ.out; omega, congrArg (Value.int .i64) (by have := HQT.out; have := HN1.out; omega), by go_num, rfl⟩
        · have HQE : Hid (n0 + 1 + manyL (x.blocks.take q) = p.types.length + manyF (p.funcs.take (k + 1))) := by
            show _ = _
            rw [List.take_of_length_le (by omega)]
            have := HMT.out; have := HN0.out
            omega
          generalize n0 + 1 + manyL (x.blocks.take q) = n1 at *
          clear hq
          go_wp2
          go_roundg (go - 1)
          case measure => have := HK.out; omega
          case rel => exact ⟨k + 1, by have := HK.out; omega, by rw [HQE.out], by go_num, rfl⟩
    · have HNE : Hid (p.types.length + manyF (p.funcs.take k) = L.length) := by
        show _ = _
        rw [List.take_of_length_le (by omega), HPL.out]
      generalize p.types.length + manyF (p.funcs.take k) = n0 at *
      have hnl := HNE.out
      subst hnl
      clear hk
      go_wp2_with fail
      refine HLC.out.mono ?_
      rintro e w4 ⟨u, rfl, hli, b4⟩
      obtain ⟨ua, uc, rfl, _⟩ := hli.slice
      have hb4 := HA3.out.go b4
      have x0 := (Below.cell b4 (p := ⟨w2.heap.size, 0, none⟩) (World.block_lt_of_cell? _ _ x0)).trans x0
      have x1 := (Below.cell b4 (p := ⟨w2.heap.size, 1, none⟩) (World.block_lt_of_cell? _ _ x1)).trans x1
      have HC4 := hid (HCK.out w4 _ hb4 (HP3.out.below b4))
      have HB4 := hid hb4
      clear hli b4 hb4 HLC HCK
      go_wp2_with fail
      refine HC4.out.mono ?_
      rintro e w5 ⟨rfl, b5⟩
      have hb := HB4.out.go b5
      go_wp2
      go_ret
      exact ⟨rfl, hb.below⟩
end Go.Proofs.YtpkgkeclkbidiaaDoor.RdSW
