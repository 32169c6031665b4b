/- Walk over fescuelaw07.ReadNames. -/
import Derived.Test.YtpkgkeclkbidiaaDoorZRcYToRdNW
import Derived.BigRegion
import Derived.Deep.Cut
import Derived.Laws.MakeOwn
import Derived.Laws.IdiomStrings
namespace Go.Proofs.YtpkgkeclkbidiaaDoor.RdXN
open Go.RowKit Go.Lib RwO SetP IntO TyM TyP TyB ShM ShP ShB ShQ LxM LxP LxJ RdM RdV Aft RcP RcO RcT RcY RcZ RdFa RdOd

def kA : List UInt8 := ([116, 121, 112, 101, 32, 105, 110, 116, 10, 116, 121, 112, 101, 32, 112, 116, 114, 32, 116, 50, 10, 116, 121, 112, 101, 32, 115, 116, 114, 117, 99, 116, 32, 116, 48, 32].append [116, 49, 10, 116, 121, 112, 101, 32, 97, 114, 114, 97, 121, 32, 116, 50, 32, 51, 10, 116, 121, 112, 101, 32, 102, 110, 32, 116, 48, 32, 116, 49, 32, 116, 48, 10])
def kB : List UInt8 := (([102, 117, 110, 99, 32, 116, 52, 10, 98, 108, 111, 99, 107, 10, 115, 116, 111, 114, 101, 32, 114, 48, 32, 114, 49, 10, 114, 51, 32, 116, 49, 32, 61, 32, 102, 105, 101, 108, 100, 32, 114, 48, 32, 49, 10].append [114, 52, 32, 116, 48, 32, 61, 32, 99, 97, 108, 108, 32, 102, 48, 32, 114, 48, 32, 114, 49, 10, 114, 53, 32, 116, 48, 32, 61, 32, 105, 99, 97, 108, 108, 32, 114, 48, 32, 114, 49, 10, 112, 114, 105, 110]).append ([116, 32, 114, 49, 10, 102, 114, 101, 101, 32, 114, 48, 10, 114, 56, 32, 116, 52, 32, 61, 32, 102, 110, 32, 102, 48, 10, 114, 57, 32, 116, 49, 32, 61, 32, 110, 117, 108, 108, 10, 98, 114, 97, 110, 99].append [104, 32, 114, 49, 32, 98, 48, 32, 98, 49, 10, 98, 108, 111, 99, 107, 10, 114, 49, 48, 32, 116, 48, 32, 61, 32, 112, 104, 105, 32, 98, 48, 32, 114, 49, 10, 114, 101, 116, 117, 114, 110, 32, 114, 49, 48]))
def bigI : List Ix := [⟨17, 0, 0, 1, 0, [], []⟩, ⟨14, 1, 0, 0, 1, [], []⟩, ⟨18, 0, 0, 0, 0, [0, 1], []⟩, ⟨19, 0, 0, 0, 0, [1], []⟩, ⟨21, 0, 1, 0, 0, [], []⟩, ⟨13, 0, 0, 0, 0, [], []⟩, ⟨3, 4, 0, 0, 0, [], []⟩, ⟨2, 1, 0, 0, 0, [], []⟩]
def bigT : List Ty := [⟨1, 0, 0, []⟩, ⟨2, 2, 0, []⟩, ⟨4, 0, 0, [0, 1]⟩, ⟨5, 2, 3, []⟩, ⟨3, 0, 0, [1, 0]⟩]
def bigP : Px := ⟨bigT, [⟨4, [⟨bigI, ⟨2, 1, 0, 1⟩⟩, ⟨[⟨22, 0, 0, 0, 0, [1], [0]⟩], ⟨3, 10, 0, 0⟩⟩]⟩]⟩
theorem big_read : readO (kA ++ kB) = (0, bigP) := by decide +kernel
theorem bad0 : oddB (preL ++ [114, 49, 32, 116, 48, 32, 61, 32, 105, 110, 116, 32, 48, 53, 10, 114, 101, 116, 117, 114, 110, 32, 114, 49]) 70 = true := by decide +kernel
theorem bad1 : oddB (preL ++ [114, 49, 32, 116, 48, 32, 61, 32, 115, 117, 109, 32, 114, 48, 32, 114, 48, 10, 114, 101, 116, 117, 114, 110, 32, 114, 49]) 70 = true := by decide +kernel
theorem bad2 : oddB (preL ++ [97, 100, 100, 32, 114, 48, 32, 114, 48, 10, 114, 101, 116, 117, 114, 110, 32, 114, 49]) 70 = true := by decide +kernel
theorem bad3 : oddB (preL ++ [114, 49, 32, 116, 48, 32, 61, 32, 102, 114, 101, 101, 32, 114, 48, 10, 114, 101, 116, 117, 114, 110, 32, 114, 49]) 70 = true := by decide +kernel
theorem bad4 : oddB (preL ++ [114, 49, 32, 116, 48, 32, 61, 32, 97, 100, 100, 32, 114, 48, 10, 114, 101, 116, 117, 114, 110, 32, 114, 49]) 70 = true := by decide +kernel
theorem bad5 : oddB (preL ++ [114, 101, 116, 117, 114, 110, 32, 114, 48, 32, 114, 48]) 70 = true := by decide +kernel
theorem bad6 : oddB ([98, 108, 111, 99, 107]) 70 = true := by decide +kernel
theorem bad7 : oddB ([116, 121, 112, 101]) 70 = true := by decide +kernel
theorem bad8 : oddB ([116, 121, 112, 101, 32, 105, 110, 116, 32, 116, 48]) 70 = true := by decide +kernel
theorem bad9 : oddB (preL ++ [114, 49, 32, 116, 48, 32, 61, 32, 112, 104, 105, 32, 98, 48, 10, 114, 101, 116, 117, 114, 110, 32, 114, 49]) 70 = true := by decide +kernel
theorem three0 : oddB [] 60 = true := by decide +kernel
theorem three1 : oddB [116, 121, 112, 101, 32, 112, 116, 114, 32, 116, 49] 30 = true := by decide +kernel
theorem three2 : oddB (preL ++ [114, 101, 116, 117, 114, 110, 32, 114, 57]) 60 = true := by decide +kernel
theorem three4 : oddB (preL ++ [114, 49, 32, 116, 48, 32, 61, 32, 97, 100, 100, 32, 114, 48, 32, 114, 48, 10, 114, 101, 116, 117, 114, 110, 32, 114, 49, 10, 114, 101, 116, 117, 114, 110, 32, 114, 49]) 70 = true := by decide +kernel
theorem three3 : oddB (List.replicate 16385 0) 4 = true := by
  have h : lnE (List.replicate 16385 (0 : UInt8)) = 4 := lnE_big (by rw [List.length_replicate]; decide)
  unfold oddB
  rw [read_lines (by rw [h]; decide), h]
  unfold oddR
  simp [px0]
/-- a string of zero bytes, made -/
theorem made_str (n : Nat) (hn : n ≤ 100000) : ∃ C : Array Value, (∀ wx : World, (Instr.makeSlice 44 (.int .i64 (n : Int)) (.int .i64 (n : Int))).run Tryd.prog wx = .ok (.slice (some ⟨wx.heap.size, 0, none⟩) n n) (wx.alloc (.cells C 5))) ∧
    ∀ wx : World, (convert 44 9 (.slice (some ⟨wx.heap.size, 0, none⟩) n n)).run Tryd.prog (wx.alloc (.cells C 5)) = .ok (.string (mk (List.replicate n 0))) (wx.alloc (.cells C 5)) := by
  obtain ⟨i0, hi, hz0, hz1, hz2⟩ := info_parts (show (Tryd.prog.info? 5).map (fun i => (i.zero, i.size, i.bytes)) = some (some (.int .u8 0), 1, 1) by kernel_rfl)
  refine ⟨madeCells (Value.int .u8 0).cells n, fun wx => ?_, fun wx => ?_⟩
  · have := run_make (P := Tryd.prog) wx 44 5 i0 (.int .u8 0) Tryd.underlying44 hi hz0 .i64 .i64 n n (by omega) (by omega) (by rw [hz2]; omega) (by omega)
    rw [hz1, Int.toNat_natCast, Nat.mul_one] at this
    exact this
  · have h := run_convert_bytes_back (P := Tryd.prog) (wx.alloc (.cells (madeCells (Value.int .u8 0).cells n) 5)) 44 9 5 ⟨wx.heap.size, 0, none⟩ n (List.replicate n 0) Tryd.underlying44 Tryd.underlying5 Tryd.underlying9 (fun j hj => by
      rw [List.length_replicate] at hj
      rw [show (⟨wx.heap.size, 0, none⟩ : Addr).add j = ⟨wx.heap.size, j, none⟩ by simp [Addr.add]; omega]
      unfold World.cell?
      rw [heap_alloc_new]
      simp [madeCells, Value.cells, Nat.mod_one, hj])
    rw [List.length_replicate] at h
    exact h
theorem odd_t {l : List UInt8} {e : Int} (h : oddB l e = true) (w wx : World) (ht : LxK.Tab w ∧ ShA.Tab w ∧ TabO w) (hb : Aft w wx) : Calls Tryd.prog 8 #[.string (mk l), .int .i64 e] wx (BoolR true wx) := by
  have := odd_calls (mk l) e wx (LxK.tab_on ht.1 hb.below) (ht.2.1.on hb.below) (ht.2.2.on hb.below)
  rwa [LxJ.un_mk, h] at this
set_option maxRecDepth 100000 in
set_option maxHeartbeats 8000000 in
theorem walk (w : World) (hk : LxK.Tab w) (htab : ShA.Tab w) (hto : TabO w) :
    Calls Tryd.prog 3 #[] w fun e w' => e = .returned (.bool true) ∧ Below w.heap.size w w' := by
  have HTB := hid (And.intro hk (And.intro htab hto))
  have HW := hid (Aft.refl w)
  have HAL := hid (fun wx (h : Aft w wx) => RdAl.alive_calls wx (LxK.tab_on hk h.below) (htab.on h.below) (hto.on h.below))
  unfold BoolR at HAL
  obtain ⟨C1, hm1', hv1⟩ := made_str 16385 (by decide)
  have hm1 : ∀ wx : World, (Instr.makeSlice 44 (.int .i64 16385) (.int .i64 16385)).run Tryd.prog wx = .ok (.slice (some ⟨wx.heap.size, 0, none⟩) 16385 16385) (wx.alloc (.cells C1 5)) := hm1'
  clear hm1'
  have HR := hid (read_calls (mk (kA ++ kB)) w hk htab hto)
  unfold ReadO at HR
  rw [show readO (un (mk (kA ++ kB))) = (0, bigP) from (congrArg readO (LxJ.un_mk _)).trans big_read] at HR
  simp only at HR
  have hadd : ∀ wx, (Op.stringOp .add ⟨kA.toArray⟩ ⟨kB.toArray⟩).run Tryd.prog wx = .ok (.string (mk (kA ++ kB))) wx := fun wx => run_string_add_lists wx kA kB (by decide) (by decide)
  generalize mk (kA ++ kB) = z at *
  obtain ⟨zk, hzk⟩ : ∃ z : ByteArray, z = ⟨kA.toArray⟩ := ⟨_, rfl⟩
  rw [← hzk] at hadd
  unfold kA at hzk
  unfold kB at hadd
  simp only [List.append_eq, List.cons_append, List.nil_append] at hadd
  clear hk htab hto
  go_enter Tryd.func3, Tryd.ntmps3
  go_upto_region 2 with fail
  rw [← hzk]
  clear hzk
  go_wp2_with fail
  refine HR.out.mono ?_
  rintro e w3 ⟨v, rfl, hp, b3⟩
  obtain ⟨vt, vf, rfl, hvt, hvf⟩ := hp
  obtain ⟨ta, tc, hta⟩ := hvt.slice
  obtain ⟨fa, fc, hfa, _⟩ := hvf.slice
  have hta2 : vt = .slice ta 5 tc := hta
  have hfa2 : vf = .slice fa 1 fc := hfa
  clear hta hfa
  subst hta2
  subst hfa2
  obtain ⟨W4, hW4⟩ : ∃ W4, W4 = w3.alloc (.cells #[.slice ta 5 tc, .slice fa 1 fc] 25) := ⟨_, rfl⟩
  have k4 : W4.heap[w3.heap.size]? = some (.cells #[.slice ta 5 tc, .slice fa 1 fc] 25 (0, 0)) := by rw [hW4]; exact ShB.alloc_new _ _
  have hA4 : Aft w W4 := by rw [hW4]; exact (HW.out.go b3).alloc _
  have h34 : Below w3.heap.size w3 W4 := by rw [hW4]; exact ShP.alloc_below _ _
  obtain ⟨b4, hb4⟩ : ∃ b, b = w3.heap.size := ⟨_, rfl⟩
  rw [← hb4] at k4
  have HB4 := hid hb4
  have hvf4 := hvf.below fnStays h34
  have hvt4 := hvt.below h34
  clear hvf hvt h34 b3 hb4
  obtain ⟨tb, t_, e, _, _, _, _, m3, _, _⟩ := hvt4.at 3 (show 3 < 5 by decide)
  subst e
  obtain ⟨tb2, t2_, e, _, pv, _, _, _, m4, hpp⟩ := hvt4.at 4 (show 4 < 5 by decide)
  cases e
  obtain ⟨pa, pc, hpv, _⟩ := ints_slice hpp
  have hpv2 : pv = .slice pa 2 pc := hpv
  clear hpv
  subst hpv2
  obtain ⟨fb, foff, e, _, vb, _, c1, hbl⟩ := hvf4.at 0 (show 0 < 1 by decide)
  subst e
  obtain ⟨ba, bc, hba, _⟩ := hbl.slice
  have hba2 : vb = .slice ba 2 bc := hba
  clear hba
  subst hba2
  obtain ⟨bb, boff, e, _, vi, d0, de1, de2, de3, de4, hin⟩ := hbl.at 0 (show 0 < 2 by decide)
  subst e
  obtain ⟨bb2, boff2, e, _, vj, dd0, _, _, _, _, hjn⟩ := hbl.at 1 (show 1 < 2 by decide)
  cases e
  obtain ⟨ia, ic, hia, _⟩ := hin.slice
  have hia2 : vi = .slice ia 8 ic := hia
  clear hia
  subst hia2
  obtain ⟨ja, jc, hja, _⟩ := hjn.slice
  have hja2 : vj = .slice ja 1 jc := hja
  clear hja
  subst hja2
  obtain ⟨ib, ioff, e, _, _, _, i00, _, i02, i03, _, _, _, _, _⟩ := hin.at 0 (show 0 < 8 by decide)
  subst e
  obtain ⟨_, _, e, _, _, _, i10, i11, _, _, i14, _, _, _, _⟩ := hin.at 1 (show 1 < 8 by decide)
  cases e
  obtain ⟨_, _, e, _, a2, _, i20, _, _, _, _, i25, _, hia2, _⟩ := hin.at 2 (show 2 < 8 by decide)
  cases e
  obtain ⟨_, _, e, _, a3, _, i30, _, i32, _, _, i35, _, hia3, _⟩ := hin.at 3 (show 3 < 8 by decide)
  cases e
  obtain ⟨_, _, e, _, _, _, i60, _⟩ := hin.at 6 (show 6 < 8 by decide)
  cases e
  obtain ⟨_, _, e, _, _, _, i70, _⟩ := hin.at 7 (show 7 < 8 by decide)
  cases e
  obtain ⟨jb, joff, e, _, ga, gf, j0, j1, j2, j3, j4, j5, j6, hga, hgf⟩ := hjn.at 0 (show 0 < 1 by decide)
  subst e
  obtain ⟨_, _, e, _⟩ := ints_slice hia2
  have e2 : a2 = .slice _ 2 _ := e
  clear e
  subst e2
  obtain ⟨_, _, e, _⟩ := ints_slice hia3
  have e2 : a3 = .slice _ 1 _ := e
  clear e
  subst e2
  obtain ⟨qa, qc, e, _⟩ := ints_slice hga
  have e2 : ga = .slice qa 1 qc := e
  clear e
  subst e2
  obtain ⟨ra, rc, e, _⟩ := ints_slice hgf
  have e2 : gf = .slice ra 1 rc := e
  clear e
  subst e2
  obtain ⟨qb, qo, e, _, qv⟩ := TyP.ints_at (show IntsAt W4 (.slice qa 1 qc) [1] from hga) 0 (show 0 < 1 by decide)
  subst e
  obtain ⟨rb, ro, e, _, rv⟩ := TyP.ints_at (show IntsAt W4 (.slice ra 1 rc) [0] from hgf) 0 (show 0 < 1 by decide)
  subst e
  have x0 := later (RdB.cells_of k4 0 _ rfl)
  have x1 := later (RdB.cells_of k4 1 _ rfl)
  have y1 := later (show W4.cell? ⟨fb, foff + 1, none⟩ = some (.slice (some ⟨bb, boff, none⟩) 2 bc) from c1)
  have y2 := later (show W4.cell? ⟨bb, boff, none⟩ = some (.slice (some ⟨ib, ioff, none⟩) 8 ic) from d0)
  have y3 := later (show W4.cell? ⟨bb, boff + 5, none⟩ = some (.slice (some ⟨jb, joff, none⟩) 1 jc) from dd0)
  have y4 := later (show W4.cell? ⟨bb, boff + 1, none⟩ = some (.int .u8 2) from de1)
  have y5 := later (show W4.cell? ⟨bb, boff + 2, none⟩ = some (.int .i64 1) from de2)
  have y6 := later (show W4.cell? ⟨bb, boff + 3, none⟩ = some (.int .i64 0) from de3)
  have y7 := later (show W4.cell? ⟨bb, boff + 4, none⟩ = some (.int .i64 1) from de4)
  have sq0 := later (show W4.cell? ⟨ib, ioff, none⟩ = some (.int .u8 17) from i00)
  have sq2 := later (show W4.cell? ⟨ib, ioff + 2, none⟩ = some (.int .i64 0) from i02)
  have sq3 := later (show W4.cell? ⟨ib, ioff + 3, none⟩ = some (.int .i64 1) from i03)
  have sq10 := later (show W4.cell? ⟨ib, ioff + 7, none⟩ = some (.int .u8 14) from i10)
  have sq11 := later (show W4.cell? ⟨ib, ioff + 8, none⟩ = some (.int .i64 1) from i11)
  have sq14 := later (show W4.cell? ⟨ib, ioff + 11, none⟩ = some (.int .i64 1) from i14)
  have sq20 := later (show W4.cell? ⟨ib, ioff + 14, none⟩ = some (.int .u8 18) from i20)
  have sq25 := later (show W4.cell? ⟨ib, ioff + 19, none⟩ = some (.slice _ 2 _) from i25)
  have sq30 := later (show W4.cell? ⟨ib, ioff + 21, none⟩ = some (.int .u8 19) from i30)
  have sq32 := later (show W4.cell? ⟨ib, ioff + 23, none⟩ = some (.int .i64 0) from i32)
  have sq35 := later (show W4.cell? ⟨ib, ioff + 26, none⟩ = some (.slice _ 1 _) from i35)
  have sq60 := later (show W4.cell? ⟨ib, ioff + 42, none⟩ = some (.int .u8 3) from i60)
  have sq70 := later (show W4.cell? ⟨ib, ioff + 49, none⟩ = some (.int .u8 2) from i70)
  have v0 := later (show W4.cell? ⟨jb, joff, none⟩ = some (.int .u8 22) from j0)
  have v1 := later (show W4.cell? ⟨jb, joff + 1, none⟩ = some (.int .i64 0) from j1)
  have v2 := later (show W4.cell? ⟨jb, joff + 2, none⟩ = some (.int .i64 0) from j2)
  have v3 := later (show W4.cell? ⟨jb, joff + 3, none⟩ = some (.int .i64 0) from j3)
  have v4 := later (show W4.cell? ⟨jb, joff + 4, none⟩ = some (.int .i64 0) from j4)
  have v5 := later (show W4.cell? ⟨jb, joff + 5, none⟩ = some (.slice (some ⟨qb, qo, none⟩) 1 qc) from j5)
  have v6 := later (show W4.cell? ⟨jb, joff + 6, none⟩ = some (.slice (some ⟨rb, ro, none⟩) 1 rc) from j6)
  have q1 := later (show W4.cell? ⟨qb, qo, none⟩ = some (.int .i64 1) from qv)
  have r1 := later (show W4.cell? ⟨rb, ro, none⟩ = some (.int .i64 0) from rv)
  have m1 := later (show W4.cell? ⟨tb, t_ + 14, none⟩ = some (.int .i64 3) from m3)
  have m2 := later (show W4.cell? ⟨tb, t_ + 19, none⟩ = some (.slice pa 2 pc) from m4)
  have hd := Aft.refl W4
  have HA4 := hid hA4
  have HW4 := hid hW4
  clear hA4 hW4 k4 hvf4 hvt4 hpp hia2 hia3 hga hgf hbl hin hjn m3 m4 c1 d0 de1 de2 de3 de4 dd0 i00 i02 i03 i10 i11 i14 i20 i25 i30 i32 i35 i60 i70 j0 j1 j2 j3 j4 j5 j6 qv rv HR hadd
  go_upto_region 3 with fail
  rw [← HW4.out, ← HB4.out]
  clear HW4 HB4
  go_upto_region 5 with fail
  go_cut [4, 5] from 10 (fun a c wc => a = .slice (some ⟨ib, ioff, none⟩) 8 ic ∧ c = .pointer (some ⟨W4.heap.size, 0, none⟩) ∧ wc.heap[W4.heap.size]? = some (.cells #[.int .u8 22, .int .i64 0, .int .i64 0, .int .i64 0, .int .i64 0, .slice (some ⟨qb, qo, none⟩) 1 qc, .slice (some ⟨rb, ro, none⟩) 1 rc] 39 (0, 0)) ∧ Aft W4 wc)
  case first => as_aux_lemma =>
    have hd1 : Aft W4 W4.drew := hd.drew
    have hd2 : ∀ o, Aft W4 (W4.alloc o) := fun o => hd.alloc o
    have hd3 : ∀ o, Aft W4 (W4.drew.alloc o) := fun o => hd1.alloc o
    go_region
    go_wp2_with fail
    go_meet
    case rel => first | exact ⟨rfl, rfl, ShB.alloc_new _ _, hd.alloc _⟩ | exact ⟨rfl, rfl, ShB.alloc_new _ _, (hd.alloc _).drew⟩
  case rest =>
  obtain ⟨rfl, rfl, k5, ha5⟩ := hcut
  obtain ⟨W5, rfl⟩ : ∃ W5 : World, W5 = wc := ⟨_, rfl⟩
  have HA5 := hid (HA4.out.trans ha5)
  have HA45 := hid ha5
  obtain ⟨b5, hb5⟩ : ∃ b, b = W4.heap.size := ⟨_, rfl⟩
  rw [← hb5] at k5 ⊢
  have n0 := later (RdB.cells_of k5 0 _ rfl)
  have n5 := later (RdB.cells_of k5 5 _ rfl)
  have n6 := later (RdB.cells_of k5 6 _ rfl)
  have hq : ∀ wx, (binOp .eql 34 (.agg #[.int .u8 2, .int .i64 1, .int .i64 0, .int .i64 1]) (.agg #[.int .u8 2, .int .i64 1, .int .i64 0, .int .i64 1])).run Tryd.prog wx = .ok (.bool true) wx := fun wx => eql_ex 2 1 0 1 2 1 0 1 wx
  clear hb5 k5 hd
  go_upto_region 6 with fail
  go_cut [6] from 10 (fun a wd => a = .bool true ∧ Aft W5 wd)
  case first => as_aux_lemma =>
    have h55 := Aft.refl W5
    go_wp2_with fail
    go_meet
    case rel => first | exact ⟨rfl, Aft.refl W5⟩ | exact ⟨rfl, (Aft.refl W5).drew⟩
  case rest =>
  obtain ⟨rfl, hb⟩ := hcut
  obtain ⟨W6, rfl⟩ : ∃ W6 : World, W6 = wc := ⟨_, rfl⟩
  have ha6 := HA45.out.trans hb
  have HA6 := hid (HA5.out.trans hb)
  clear HA5 HA45 ha5
  go_upto_region 7 with fail
  go_cut [7] from 10 (fun a wd => a = .bool true ∧ Aft W6 wd)
  case first => as_aux_lemma =>
    go_wp2_with fail
    go_meet
    case rel => first | exact ⟨rfl, Aft.refl W6⟩ | exact ⟨rfl, (Aft.refl W6).drew⟩
  case rest =>
  obtain ⟨rfl, hb7⟩ := hcut
  obtain ⟨W7, rfl⟩ : ∃ W7 : World, W7 = wc := ⟨_, rfl⟩
  have HC := hid (HA6.out.trans hb7)
  clear sq0 sq2 sq3 sq10 sq11 sq14 sq20 sq25 sq30 sq32 sq35 sq60 sq70 x0 x1 y1 y2 y3 y4 y5 y6 y7 v0 v1 v2 v3 v4 v5 v6 q1 r1 m1 m2 n0 n5 n6 hq ha6 hb hb7 HA6 HA4
  go_upto_region 8 with fail
  go_cut [8] from 10 (fun a wd => a = .bool true ∧ Aft w wd)
  case first => as_aux_lemma =>
    go_wp2_with fail
    refine (text_calls [114, 49, 32, 116, 48, 32, 61, 32, 105, 110, 116, 32, 48, 53, 10, 114, 101, 116, 117, 114, 110, 32, 114, 49] (by decide) _).mono ?_
    rintro e w0 ⟨rfl, hw0⟩
    rw [hw0]
    clear hw0 w0
    go_wp2_with fail
    refine (odd_t (l := preL ++ [114, 49, 32, 116, 48, 32, 61, 32, 105, 110, 116, 32, 48, 53, 10, 114, 101, 116, 117, 114, 110, 32, 114, 49]) bad0 w _ HTB.out HC.out).mono ?_
    rintro e w901 ⟨rfl, b1⟩
    have HC1 := hid (Aft.go HC.out b1)
    clear b1 HC
    have HC := HC1
    clear HC1
    go_wp2_with fail
    refine (text_calls [114, 49, 32, 116, 48, 32, 61, 32, 115, 117, 109, 32, 114, 48, 32, 114, 48, 10, 114, 101, 116, 117, 114, 110, 32, 114, 49] (by decide) _).mono ?_
    rintro e w0 ⟨rfl, hw0⟩
    rw [hw0]
    clear hw0 w0
    go_wp2_with fail
    refine (odd_t (l := preL ++ [114, 49, 32, 116, 48, 32, 61, 32, 115, 117, 109, 32, 114, 48, 32, 114, 48, 10, 114, 101, 116, 117, 114, 110, 32, 114, 49]) bad1 w _ HTB.out HC.out).mono ?_
    rintro e w902 ⟨rfl, b2⟩
    have HC2 := hid (Aft.go HC.out b2)
    clear b2 HC
    have HC := HC2
    clear HC2
    go_wp2_with fail
    refine (text_calls [97, 100, 100, 32, 114, 48, 32, 114, 48, 10, 114, 101, 116, 117, 114, 110, 32, 114, 49] (by decide) _).mono ?_
    rintro e w0 ⟨rfl, hw0⟩
    rw [hw0]
    clear hw0 w0
    go_wp2_with fail
    refine (odd_t (l := preL ++ [97, 100, 100, 32, 114, 48, 32, 114, 48, 10, 114, 101, 116, 117, 114, 110, 32, 114, 49]) bad2 w _ HTB.out HC.out).mono ?_
    rintro e w903 ⟨rfl, b3⟩
    have HC3 := hid (Aft.go HC.out b3)
    clear b3 HC
    have HC := HC3
    clear HC3
    go_wp2_with fail
    refine (text_calls [114, 49, 32, 116, 48, 32, 61, 32, 102, 114, 101, 101, 32, 114, 48, 10, 114, 101, 116, 117, 114, 110, 32, 114, 49] (by decide) _).mono ?_
    rintro e w0 ⟨rfl, hw0⟩
    rw [hw0]
    clear hw0 w0
    go_wp2_with fail
    refine (odd_t (l := preL ++ [114, 49, 32, 116, 48, 32, 61, 32, 102, 114, 101, 101, 32, 114, 48, 10, 114, 101, 116, 117, 114, 110, 32, 114, 49]) bad3 w _ HTB.out HC.out).mono ?_
    rintro e w904 ⟨rfl, b4⟩
    have HC4 := hid (Aft.go HC.out b4)
    clear b4 HC
    have HC := HC4
    clear HC4
    go_wp2_with fail
    refine (text_calls [114, 49, 32, 116, 48, 32, 61, 32, 97, 100, 100, 32, 114, 48, 10, 114, 101, 116, 117, 114, 110, 32, 114, 49] (by decide) _).mono ?_
    rintro e w0 ⟨rfl, hw0⟩
    rw [hw0]
    clear hw0 w0
    go_wp2_with fail
    refine (odd_t (l := preL ++ [114, 49, 32, 116, 48, 32, 61, 32, 97, 100, 100, 32, 114, 48, 10, 114, 101, 116, 117, 114, 110, 32, 114, 49]) bad4 w _ HTB.out HC.out).mono ?_
    rintro e w905 ⟨rfl, b5⟩
    have HC5 := hid (Aft.go HC.out b5)
    clear b5 HC
    have HC := HC5
    clear HC5
    go_wp2_with fail
    refine (text_calls [114, 101, 116, 117, 114, 110, 32, 114, 48, 32, 114, 48] (by decide) _).mono ?_
    rintro e w0 ⟨rfl, hw0⟩
    rw [hw0]
    clear hw0 w0
    go_wp2_with fail
    refine (odd_t (l := preL ++ [114, 101, 116, 117, 114, 110, 32, 114, 48, 32, 114, 48]) bad5 w _ HTB.out HC.out).mono ?_
    rintro e w906 ⟨rfl, b6⟩
    have HC6 := hid (Aft.go HC.out b6)
    clear b6 HC
    have HC := HC6
    clear HC6
    go_wp2_with fail
    refine (odd_t (l := [98, 108, 111, 99, 107]) bad6 w _ HTB.out HC.out).mono ?_
    rintro e w907 ⟨rfl, b7⟩
    have HC7 := hid (Aft.go HC.out b7)
    clear b7 HC
    have HC := HC7
    clear HC7
    go_wp2_with fail
    refine (odd_t (l := [116, 121, 112, 101]) bad7 w _ HTB.out HC.out).mono ?_
    rintro e w908 ⟨rfl, b8⟩
    have HC8 := hid (Aft.go HC.out b8)
    clear b8 HC
    have HC := HC8
    clear HC8
    go_wp2_with fail
    refine (odd_t (l := [116, 121, 112, 101, 32, 105, 110, 116, 32, 116, 48]) bad8 w _ HTB.out HC.out).mono ?_
    rintro e w909 ⟨rfl, b9⟩
    have HC9 := hid (Aft.go HC.out b9)
    clear b9 HC
    have HC := HC9
    clear HC9
    go_wp2_with fail
    refine (text_calls [114, 49, 32, 116, 48, 32, 61, 32, 112, 104, 105, 32, 98, 48, 10, 114, 101, 116, 117, 114, 110, 32, 114, 49] (by decide) _).mono ?_
    rintro e w0 ⟨rfl, hw0⟩
    rw [hw0]
    clear hw0 w0
    go_wp2_with fail
    refine (odd_t (l := preL ++ [114, 49, 32, 116, 48, 32, 61, 32, 112, 104, 105, 32, 98, 48, 10, 114, 101, 116, 117, 114, 110, 32, 114, 49]) bad9 w _ HTB.out HC.out).mono ?_
    rintro e w910 ⟨rfl, b10⟩
    have HC10 := hid (Aft.go HC.out b10)
    clear b10 HC
    have HC := HC10
    clear HC10
    go_wp2_with fail
    go_meet
    case rel => exact ⟨rfl, HC.out⟩
  case rest =>
  obtain ⟨rfl, hc8⟩ := hcut
  obtain ⟨W8, rfl⟩ : ∃ W8 : World, W8 = wc := ⟨_, rfl⟩
  clear HC
  have HC := hid hc8
  clear hc8
  go_upto_region 9 with fail
  go_cut [9] from 10 (fun a wd => a = .bool true ∧ Aft w wd)
  case first => as_aux_lemma =>
    go_wp2_with fail
    refine (odd_t (l := []) three0 w _ HTB.out HC.out).mono ?_
    rintro e w911 ⟨rfl, b11⟩
    have HC11 := hid (Aft.go HC.out b11)
    clear b11 HC
    have HC := HC11
    clear HC11
    go_wp2_with fail
    refine (odd_t (l := [116, 121, 112, 101, 32, 112, 116, 114, 32, 116, 49]) three1 w _ HTB.out HC.out).mono ?_
    rintro e w912 ⟨rfl, b12⟩
    have HC12 := hid (Aft.go HC.out b12)
    clear b12 HC
    have HC := HC12
    clear HC12
    go_wp2_with fail
    refine (text_calls [114, 101, 116, 117, 114, 110, 32, 114, 57] (by decide) _).mono ?_
    rintro e w0 ⟨rfl, hw0⟩
    rw [hw0]
    clear hw0 w0
    go_wp2_with fail
    refine (odd_t (l := preL ++ [114, 101, 116, 117, 114, 110, 32, 114, 57]) three2 w _ HTB.out HC.out).mono ?_
    rintro e w913 ⟨rfl, b13⟩
    have HC13 := hid (Aft.go HC.out b13)
    clear b13 HC
    have HC := HC13
    clear HC13
    go_wp2_with fail
    refine (odd_t (l := List.replicate 16385 0) three3 w _ HTB.out (HC.out.alloc _)).mono ?_
    rintro e w914 ⟨rfl, b14⟩
    have HC14 := hid (Aft.go (HC.out.alloc _) b14)
    clear b14 HC
    have HC := HC14
    clear HC14
    go_wp2_with fail
    refine (text_calls [114, 49, 32, 116, 48, 32, 61, 32, 97, 100, 100, 32, 114, 48, 32, 114, 48, 10, 114, 101, 116, 117, 114, 110, 32, 114, 49, 10, 114, 101, 116, 117, 114, 110, 32, 114, 49] (by decide) _).mono ?_
    rintro e w0 ⟨rfl, hw0⟩
    rw [hw0]
    clear hw0 w0
    go_wp2_with fail
    refine (odd_t (l := preL ++ [114, 49, 32, 116, 48, 32, 61, 32, 97, 100, 100, 32, 114, 48, 32, 114, 48, 10, 114, 101, 116, 117, 114, 110, 32, 114, 49, 10, 114, 101, 116, 117, 114, 110, 32, 114, 49]) three4 w _ HTB.out HC.out).mono ?_
    rintro e w915 ⟨rfl, b15⟩
    have HC15 := hid (Aft.go HC.out b15)
    clear b15 HC
    have HC := HC15
    clear HC15
    go_wp2_with fail
    go_meet
    case rel => exact ⟨rfl, HC.out⟩
  case rest =>
  obtain ⟨rfl, hc9⟩ := hcut
  obtain ⟨W9, rfl⟩ : ∃ W9 : World, W9 = wc := ⟨_, rfl⟩
  clear HC
  have HC := hid hc9
  clear hc9
  go_wp2_with fail
  refine (HAL.out _ HC.out).mono ?_
  rintro e wz ⟨rfl, bz⟩
  have hb := HC.out.go bz
  go_wp2
  go_ret
  exact ⟨rfl, hb.below⟩
end Go.Proofs.YtpkgkeclkbidiaaDoor.RdXN
