/- Walk over fescuelaw06.ShapeBack. -/
import Derived.Test.YtaegidmodenomaaDoorShBP
import Derived.Test.YtaegidmodenomaaDoorShR
import Derived.Test.YtaegidmodenomaaDoorShOpen
namespace Go.Proofs.YtaegidmodenomaaDoor.ShBW
open Go.RowKit Go.Lib SetP IntO TyM TyP TyB TyC ShM ShP ShA ShB ShC ShE ShQ ShF ShG ShH ShI ShJ ShK ShL ShX ShR ShOpen ShBP

theorem i64_wf {n : Int} (h : (Lit.int .i64 n).wf = true) : -9223372036854775808 ≤ n ∧ n ≤ 9223372036854775807 := by
  simpa [Lit.wf, IntKind.min, IntKind.max, IntKind.signed, IntKind.bits] using h
set_option maxRecDepth 100000 in
set_option maxHeartbeats 16000000 in
theorem walk (W : World) (v : Value) (p : Px) (S : PrAt W v p) (_ : ∀ y ∈ p.types, TyOk y) (z : ∀ y ∈ p.funcs, FxOk y) (ln : Lens p) (f : Int) (_ : (Lit.int .i64 f).wf = true) (r : Int) (hrw : (Lit.int .i64 r).wf = true) (ht : Tab W) :
    Calls Tryd.prog 7 #[v, .int .i64 f, .int .i64 r] W fun e W' => e = .returned (.bool true) ∧ Below W.heap.size W W' := by
  have hr := i64_wf hrw
  have hok : POk p := fun f hf b hb => ⟨(z f hf b hb).1, (z f hf b hb).2⟩
  have HS := hid S
  have HA := hid (fun wx (hb : Below W.heap.size W wx) => alive_calls wx (ht.on hb))
  have HG := hid (fun wx (hb : Below W.heap.size W wx) => great_calls p v wx (S.below hb) ln)
  have HRG := hid (fun (hs : Small p) wx (hb : Below W.heap.size W wx) => regsP_calls p f v wx (S.below hb) (ht.on hb) hs hok)
  have HPL := hid (fun (hs : Small p) (q : Int) (hq : -9223372036854775808 ≤ q ∧ q ≤ 9223372036854775807) wx (hb : Below W.heap.size W wx) => place_calls p f q v wx (S.below hb) (ht.on hb) hs hok hq)
  have HRE := hid (fun (hs : Small p) (b i : Int) wx (hb : Below W.heap.size W wx) => reg_calls p f b i v wx (S.below hb) (ht.on hb) hs hok)
  obtain ⟨vt, vf, rfl, hvt, hvf⟩ := S
  have hb0 := alloc_below W (.cells #[vt, vf] 29)
  obtain ⟨ta, tc, rfl⟩ := hvt.slice
  obtain ⟨fa, fc, rfl, _⟩ := hvf.slice
  have HA0 := hid (HA.out _ hb0)
  have HB0 := hid hb0
  have HR := hid hr
  clear hvt hvf hb0 HA z ln ht HS hok hr hrw
  generalize p.types.length = n1 at *
  generalize p.funcs.length = n2 at *
  go_enter Tryd.func7, Tryd.ntmps7
  go_wp2_with fail
  refine HA0.out.mono ?_
  rintro e w1 ⟨rfl, hb1⟩
  have hbe := HB0.out.trans (hb1.mono HB0.out.size)
  have HG1 := hid (HG.out w1 hbe)
  obtain ⟨f1, _, s1, k1⟩ := copyF (alloc_new _ _) hb1 (by simp only [World.size_alloc]; omega)
  have HK1 := hid k1
  have p0 := f1 0 (by simp); have p1 := f1 1 (by simp)
  simp only [List.getElem_toArray, List.getElem_cons_succ, List.getElem_cons_zero] at p0 p1
  clear f1 k1 HG HA0 hb1
  go_wp2_with fail
  refine HG1.out.mono ?_
  rintro e w2 ⟨gb, rfl, hsmall, hb2⟩
  have hbe2 := hbe.trans (hb2.mono hbe.size)
  have HK2 := hid (keepBlk hb2 HK1.out)
  clear HG1 p0 p1 s1 hb2 hbe HK1
  obtain ⟨r1, _, s1, _⟩ := copyF HK2.out (Below.refl w2.heap.size w2) (Array.getElem?_eq_some_iff.1 HK2.out).1
  have p0 := r1 0 (by simp); have p1 := r1 1 (by simp)
  simp only [List.getElem_toArray, List.getElem_cons_succ, List.getElem_cons_zero] at p0 p1
  clear r1
  cases gb with
  | true =>
    clear hsmall HRG HPL HRE
    go_wp2
    go_ret
    exact ⟨rfl, hbe2⟩
  | false =>
    have hs := hsmall rfl
    have HRG1 := hid (HRG.out hs w2 hbe2)
    have HPL1 := hid (HPL.out hs r HR.out)
    have HPLN := hid (HPL.out hs (r + 1))
    have HRE1 := hid (HRE.out hs)
    clear hsmall HRG HPL HRE
    by_cases hz : findP p f = 0
    rotate_left
    · have hpe : placeE p f r = findP p f := by unfold placeE; rw [if_pos hz]
      have hpb : placeB p f r = 0 := by unfold placeB; rw [hpe, if_pos hz]
      have hpi : placeI p f r = 0 := by unfold placeI; rw [hpe, if_pos hz]
      rw [if_neg hz] at HRG1
      simp only [hpe, hpb, hpi] at HPL1
      have e0 : (findP p f != 0) = true := by simpa using hz
      have e1 : (findP p f == 0) = false := by simpa using hz
      clear hpe hpb hpi HPLN HRE1 hs
      generalize findP p f = fe at *
      go_wp2_with fail
      refine HRG1.out.mono ?_
      rintro e w3 ⟨rfl, hb3⟩
      have hbe3 := hbe2.trans (hb3.mono hbe2.size)
      have HK3 := hid (keepBlk hb3 HK2.out)
      have HPL3 := hid (HPL1.out w3 hbe3)
      clear p0 p1 s1 HRG1 hb3
      obtain ⟨r1, _, s1, _⟩ := copyF HK3.out (Below.refl w3.heap.size w3) (Array.getElem?_eq_some_iff.1 HK3.out).1
      have p0 := r1 0 (by simp); have p1 := r1 1 (by simp)
      simp only [List.getElem_toArray, List.getElem_cons_succ, List.getElem_cons_zero] at p0 p1
      clear r1 HK2
      go_wp2_with fail
      refine HPL3.out.mono ?_
      rintro e w4 ⟨rfl, hb4⟩
      have hbe4 := hbe3.trans (hb4.mono hbe3.size)
      have HK4 := hid (keepBlk hb4 HK3.out)
      clear HPL3 hb4 p0 p1 s1 HK3
      obtain ⟨r1, _, s1, _⟩ := copyF HK4.out (Below.refl w4.heap.size w4) (Array.getElem?_eq_some_iff.1 HK4.out).1
      have p0 := r1 0 (by simp); have p1 := r1 1 (by simp)
      simp only [List.getElem_toArray, List.getElem_cons_succ, List.getElem_cons_zero] at p0 p1
      clear r1
      go_wp2
      all_goals (try (exfalso; omega))
      go_ret
      exact ⟨by simp, hbe4⟩
    rw [if_pos hz, hz] at HRG1
    obtain ⟨k, x, h1⟩ := has1 hz
    rw [cnt_at h1] at HRG1
    by_cases hin : 0 ≤ r ∧ r < ((parOf p.types x.sig + manyB x.blocks : Nat) : Int)
    rotate_left
    · obtain ⟨hpe, hpb, hpi⟩ := back_out hz h1 hin
      simp only [hpe, hpb, hpi] at HPL1
      clear hpe hpb hpi HPLN HRE1 hs hin h1 hz
      generalize parOf p.types x.sig + manyB x.blocks = cnt at *
      go_wp2_with fail
      refine HRG1.out.mono ?_
      rintro e w3 ⟨rfl, hb3⟩
      have hbe3 := hbe2.trans (hb3.mono hbe2.size)
      have HK3 := hid (keepBlk hb3 HK2.out)
      have HPL3 := hid (HPL1.out w3 hbe3)
      clear p0 p1 s1 HRG1 hb3
      obtain ⟨r1, _, s1, _⟩ := copyF HK3.out (Below.refl w3.heap.size w3) (Array.getElem?_eq_some_iff.1 HK3.out).1
      have p0 := r1 0 (by simp); have p1 := r1 1 (by simp)
      simp only [List.getElem_toArray, List.getElem_cons_succ, List.getElem_cons_zero] at p0 p1
      clear r1 HK2
      go_wp2_with fail
      refine HPL3.out.mono ?_
      rintro e w4 ⟨rfl, hb4⟩
      have hbe4 := hbe3.trans (hb4.mono hbe3.size)
      have HK4 := hid (keepBlk hb4 HK3.out)
      clear HPL3 hb4 p0 p1 s1 HK3
      obtain ⟨r1, _, s1, _⟩ := copyF HK4.out (Below.refl w4.heap.size w4) (Array.getElem?_eq_some_iff.1 HK4.out).1
      have p0 := r1 0 (by simp); have p1 := r1 1 (by simp)
      simp only [List.getElem_toArray, List.getElem_cons_succ, List.getElem_cons_zero] at p0 p1
      clear r1
      go_wp2
      go_ret
      exact ⟨by simp, hbe4⟩
    by_cases hpr : r < (parOf p.types x.sig : Nat)
    · obtain ⟨hpe, hpb, hpi⟩ := back_par hz h1 hin.1 hpr
      simp only [hpe, hpb, hpi] at HPL1
      have hin0 := hin.1
      have hin1 := hin.2
      clear hpe hpb hpi HPLN HRE1 hs hin h1 hz hpr
      generalize parOf p.types x.sig + manyB x.blocks = cnt at *
      go_wp2_with fail
      refine HRG1.out.mono ?_
      rintro e w3 ⟨rfl, hb3⟩
      have hbe3 := hbe2.trans (hb3.mono hbe2.size)
      have HK3 := hid (keepBlk hb3 HK2.out)
      have HPL3 := hid (HPL1.out w3 hbe3)
      clear p0 p1 s1 HRG1 hb3
      obtain ⟨r1, _, s1, _⟩ := copyF HK3.out (Below.refl w3.heap.size w3) (Array.getElem?_eq_some_iff.1 HK3.out).1
      have p0 := r1 0 (by simp); have p1 := r1 1 (by simp)
      simp only [List.getElem_toArray, List.getElem_cons_succ, List.getElem_cons_zero] at p0 p1
      clear r1 HK2
      go_wp2_with fail
      refine HPL3.out.mono ?_
      rintro e w4 ⟨rfl, hb4⟩
      have hbe4 := hbe3.trans (hb4.mono hbe3.size)
      have HK4 := hid (keepBlk hb4 HK3.out)
      clear HPL3 hb4 p0 p1 s1 HK3
      obtain ⟨r1, _, s1, _⟩ := copyF HK4.out (Below.refl w4.heap.size w4) (Array.getElem?_eq_some_iff.1 HK4.out).1
      have p0 := r1 0 (by simp); have p1 := r1 1 (by simp)
      simp only [List.getElem_toArray, List.getElem_cons_succ, List.getElem_cons_zero] at p0 p1
      clear r1
      go_wp2
      all_goals (try (exfalso; omega))
      go_ret
      exact ⟨by simp, hbe4⟩
    obtain ⟨n, hn⟩ : ∃ n : Nat, r = ((parOf p.types x.sig + n : Nat) : Int) := ⟨(r - (parOf p.types x.sig : Nat)).toNat, by omega⟩
    have hnm : n < manyB x.blocks := by omega
    have hcnt : parOf p.types x.sig + manyB x.blocks ≤ 1000 := by
      have := par_le hs.parts h1.sig0 h1.sig1
      have := h1.many
      omega
    obtain ⟨j, i, hj, hl, h2, h3⟩ := locate_spec x.blocks n hnm
    obtain ⟨hpe, hpb, hpi⟩ := back_in hz h1 hnm hl
    obtain ⟨hre, hrn⟩ := back_reg hz h1 hj h2 h3
    have hj16 : j ≤ 1000 := by have := h1.blocks; omega
    have hi16 : i ≤ 1000 := by have := h1.many; omega
    have HRE2 := hid (HRE1.out j i)
    rw [hre, hrn, ← hn] at HRE2
    rw [← hn] at hpe hpb hpi
    simp only [hpe, hpb, hpi] at HPL1
    have HPL2 := hid (HPLN.out (by omega))
    by_cases hlast : n + 1 < manyB x.blocks
    rotate_left
    · obtain ⟨qe, qb, qi⟩ := back_out (r := r + 1) hz h1 (by omega)
      simp only [qe, qb, qi] at HPL2
      have hge : ¬ (r + 1 < ((parOf p.types x.sig + manyB x.blocks : Nat) : Int)) := by omega
      have hw : IntKind.i64.wrap (r + 1) = r + 1 := by rw [IntWalk.i64_in _ (by omega)]
      have hlt : r < ((parOf p.types x.sig + manyB x.blocks : Nat) : Int) := hin.2
      have hbr : r ≤ 1000 := by omega
      have hb0 : 0 ≤ r := hin.1
      clear hpe hpb hpi hre hrn HPLN HRE1 hs hin h1 hz hpr hl h2 h3 hj hn hnm hlast qe qb qi
      generalize parOf p.types x.sig + manyB x.blocks = cnt at *
      go_wp2_with fail
      refine HRG1.out.mono ?_
      rintro e w3 ⟨rfl, hb3⟩
      have hbe3 := hbe2.trans (hb3.mono hbe2.size)
      have HK3 := hid (keepBlk hb3 HK2.out)
      have HPL3 := hid (HPL1.out w3 hbe3)
      clear p0 p1 s1 HRG1 hb3
      obtain ⟨r1, _, s1, _⟩ := copyF HK3.out (Below.refl w3.heap.size w3) (Array.getElem?_eq_some_iff.1 HK3.out).1
      have p0 := r1 0 (by simp); have p1 := r1 1 (by simp)
      simp only [List.getElem_toArray, List.getElem_cons_succ, List.getElem_cons_zero] at p0 p1
      clear r1 HK2
      go_wp2_with fail
      refine HPL3.out.mono ?_
      rintro e w4 ⟨rfl, hb4⟩
      have hbe4 := hbe3.trans (hb4.mono hbe3.size)
      have HK4 := hid (keepBlk hb4 HK3.out)
      clear HPL3 hb4 p0 p1 s1 HK3
      obtain ⟨r1, _, s1, _⟩ := copyF HK4.out (Below.refl w4.heap.size w4) (Array.getElem?_eq_some_iff.1 HK4.out).1
      have p0 := r1 0 (by simp); have p1 := r1 1 (by simp)
      simp only [List.getElem_toArray, List.getElem_cons_succ, List.getElem_cons_zero] at p0 p1
      clear r1
      go_wp2_with fail
      all_goals (try (exfalso; omega))
      refine (HRE2.out w4 hbe4).mono ?_
      rintro e w5 ⟨rfl, hb5⟩
      have hbe5 := hbe4.trans (hb5.mono hbe4.size)
      have HK5 := hid (keepBlk hb5 HK4.out)
      clear HRE2 hb5 p0 p1 s1 HK4
      obtain ⟨r1, _, s1, _⟩ := copyF HK5.out (Below.refl w5.heap.size w5) (Array.getElem?_eq_some_iff.1 HK5.out).1
      have p0 := r1 0 (by simp); have p1 := r1 1 (by simp)
      simp only [List.getElem_toArray, List.getElem_cons_succ, List.getElem_cons_zero] at p0 p1
      clear r1
      go_wp2_with fail
      all_goals (try (exfalso; omega))
      refine (HPL2.out w5 hbe5).mono ?_
      rintro e w6 ⟨rfl, hb6⟩
      have hbe6 := hbe5.trans (hb6.mono hbe5.size)
      clear HPL2 hb6 p0 p1 s1 HK5
      go_wp2
      all_goals (try (exfalso; omega))
      go_ret
      have hee : (r + 1 == (cnt : Int)) = true := beq_iff_eq.2 (by omega)
      exact ⟨congrArg (fun b => Ending.returned (.bool b)) hee, hbe6⟩
    have hq : r + 1 = ((parOf p.types x.sig + (n + 1) : Nat) : Int) := by omega
    have hw : IntKind.i64.wrap (r + 1) = r + 1 := by rw [IntWalk.i64_in _ (by omega)]
    have hlt : r < ((parOf p.types x.sig + manyB x.blocks : Nat) : Int) := hin.2
    have hbr : r ≤ 1000 := by omega
    have hb0 : 0 ≤ r := hin.1
    rcases locate_next hj h2 h3 hlast with hnx | ⟨c, hjc, hnx⟩
    · obtain ⟨qe, qb, qi⟩ := back_in hz h1 hlast hnx
      rw [← hq] at qe qb qi
      simp only [qe, qb, qi] at HPL2
      clear hpe hpb hpi hre hrn HPLN HRE1 hs hin h1 hz hpr hl h2 h3 hj hn hnm hlast qe qb qi hnx hq
      generalize parOf p.types x.sig + manyB x.blocks = cnt at *
      go_wp2_with fail
      refine HRG1.out.mono ?_
      rintro e w3 ⟨rfl, hb3⟩
      have hbe3 := hbe2.trans (hb3.mono hbe2.size)
      have HK3 := hid (keepBlk hb3 HK2.out)
      have HPL3 := hid (HPL1.out w3 hbe3)
      clear p0 p1 s1 HRG1 hb3
      obtain ⟨r1, _, s1, _⟩ := copyF HK3.out (Below.refl w3.heap.size w3) (Array.getElem?_eq_some_iff.1 HK3.out).1
      have p0 := r1 0 (by simp); have p1 := r1 1 (by simp)
      simp only [List.getElem_toArray, List.getElem_cons_succ, List.getElem_cons_zero] at p0 p1
      clear r1 HK2
      go_wp2_with fail
      refine HPL3.out.mono ?_
      rintro e w4 ⟨rfl, hb4⟩
      have hbe4 := hbe3.trans (hb4.mono hbe3.size)
      have HK4 := hid (keepBlk hb4 HK3.out)
      clear HPL3 hb4 p0 p1 s1 HK3
      obtain ⟨r1, _, s1, _⟩ := copyF HK4.out (Below.refl w4.heap.size w4) (Array.getElem?_eq_some_iff.1 HK4.out).1
      have p0 := r1 0 (by simp); have p1 := r1 1 (by simp)
      simp only [List.getElem_toArray, List.getElem_cons_succ, List.getElem_cons_zero] at p0 p1
      clear r1
      go_wp2_with fail
      all_goals (try (exfalso; omega))
      refine (HRE2.out w4 hbe4).mono ?_
      rintro e w5 ⟨rfl, hb5⟩
      have hbe5 := hbe4.trans (hb5.mono hbe4.size)
      have HK5 := hid (keepBlk hb5 HK4.out)
      clear HRE2 hb5 p0 p1 s1 HK4
      obtain ⟨r1, _, s1, _⟩ := copyF HK5.out (Below.refl w5.heap.size w5) (Array.getElem?_eq_some_iff.1 HK5.out).1
      have p0 := r1 0 (by simp); have p1 := r1 1 (by simp)
      simp only [List.getElem_toArray, List.getElem_cons_succ, List.getElem_cons_zero] at p0 p1
      clear r1
      go_wp2_with fail
      all_goals (try (exfalso; omega))
      refine (HPL2.out w5 hbe5).mono ?_
      rintro e w6 ⟨rfl, hb6⟩
      have hbe6 := hbe5.trans (hb6.mono hbe5.size)
      clear HPL2 hb6 p0 p1 s1 HK5
      go_wp2
      all_goals (try (exfalso; omega))
      go_ret
      exact ⟨by simp, hbe6⟩
    · obtain ⟨qe, qb, qi⟩ := back_in hz h1 hlast hnx
      have hc16 : c ≤ 1000 := by
        obtain ⟨c', d, hc', e1, _, _⟩ := locate_spec x.blocks (n + 1) hlast
        rw [hnx] at e1
        have := h1.blocks
        have := congrArg Prod.fst e1
        simp only at this
        omega
      rw [← hq] at qe qb qi
      simp only [qe, qb, qi] at HPL2
      have hjc2 : (j : Int) < c := by omega
      have hjc3 : ((c : Int) == (j : Int)) = false := by simp; omega
      clear hpe hpb hpi hre hrn HPLN HRE1 hs hin h1 hz hpr hl h2 h3 hj hn hnm hlast qe qb qi hnx hq hjc
      generalize parOf p.types x.sig + manyB x.blocks = cnt at *
      go_wp2_with fail
      refine HRG1.out.mono ?_
      rintro e w3 ⟨rfl, hb3⟩
      have hbe3 := hbe2.trans (hb3.mono hbe2.size)
      have HK3 := hid (keepBlk hb3 HK2.out)
      have HPL3 := hid (HPL1.out w3 hbe3)
      clear p0 p1 s1 HRG1 hb3
      obtain ⟨r1, _, s1, _⟩ := copyF HK3.out (Below.refl w3.heap.size w3) (Array.getElem?_eq_some_iff.1 HK3.out).1
      have p0 := r1 0 (by simp); have p1 := r1 1 (by simp)
      simp only [List.getElem_toArray, List.getElem_cons_succ, List.getElem_cons_zero] at p0 p1
      clear r1 HK2
      go_wp2_with fail
      refine HPL3.out.mono ?_
      rintro e w4 ⟨rfl, hb4⟩
      have hbe4 := hbe3.trans (hb4.mono hbe3.size)
      have HK4 := hid (keepBlk hb4 HK3.out)
      clear HPL3 hb4 p0 p1 s1 HK3
      obtain ⟨r1, _, s1, _⟩ := copyF HK4.out (Below.refl w4.heap.size w4) (Array.getElem?_eq_some_iff.1 HK4.out).1
      have p0 := r1 0 (by simp); have p1 := r1 1 (by simp)
      simp only [List.getElem_toArray, List.getElem_cons_succ, List.getElem_cons_zero] at p0 p1
      clear r1
      go_wp2_with fail
      all_goals (try (exfalso; omega))
      refine (HRE2.out w4 hbe4).mono ?_
      rintro e w5 ⟨rfl, hb5⟩
      have hbe5 := hbe4.trans (hb5.mono hbe4.size)
      have HK5 := hid (keepBlk hb5 HK4.out)
      clear HRE2 hb5 p0 p1 s1 HK4
      obtain ⟨r1, _, s1, _⟩ := copyF HK5.out (Below.refl w5.heap.size w5) (Array.getElem?_eq_some_iff.1 HK5.out).1
      have p0 := r1 0 (by simp); have p1 := r1 1 (by simp)
      simp only [List.getElem_toArray, List.getElem_cons_succ, List.getElem_cons_zero] at p0 p1
      clear r1
      go_wp2_with fail
      all_goals (try (exfalso; omega))
      refine (HPL2.out w5 hbe5).mono ?_
      rintro e w6 ⟨rfl, hb6⟩
      have hbe6 := hbe5.trans (hb6.mono hbe5.size)
      clear HPL2 hb6 p0 p1 s1 HK5
      go_wp2
      all_goals (try (exfalso; omega))
      go_ret
      exact ⟨by simp, hbe6⟩
end Go.Proofs.YtaegidmodenomaaDoor.ShBW
