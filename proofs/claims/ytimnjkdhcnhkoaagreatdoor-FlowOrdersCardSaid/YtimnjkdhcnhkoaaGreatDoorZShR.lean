/- Walk over fescueref06.Great. -/
import Derived.Test.YtimnjkdhcnhkoaaGreatDoorZTyREG
import Derived.Test.YtimnjkdhcnhkoaaGreatDoorZShBToShDp
import Derived.Test.YtimnjkdhcnhkoaaGreatDoorZTyRE
namespace Go.Proofs.YtimnjkdhcnhkoaaGreatDoor.ShR
open Go.RowKit Go.Lib SetP IntO TyM TyP TyB TyQ TyRE ShM ShP ShA ShB

/-- a program is small, where Great says so -/
def GreatR (p : Px) (w : World) (e : Ending) (w' : World) : Prop := ∃ b : Bool, e = .returned (.bool b) ∧ (b = false → Small p) ∧ Below w.heap.size w w'
def GoodI (x : Ix) : Prop := x.args.length ≤ 20 ∧ x.frm.length ≤ 20
def GoodB (b : Bx) : Prop := ∀ x ∈ b.ins, GoodI x
def GoodF (f : Fx) : Prop := f.blocks.length ≤ 20 ∧ manyB f.blocks ≤ 20000 ∧ ∀ b ∈ f.blocks, GoodB b
/-- blocks of no more instructions than a machine may hold -/
def Lens (p : Px) : Prop := ∀ f ∈ p.funcs, ∀ b ∈ f.blocks, b.ins.length ≤ 140737488355328
theorem good_take {α : Type} {q : α → Prop} {l : List α} {k : Nat} (hk : k < l.length) (h : ∀ x ∈ l.take k, q x) (hp : q l[k]) : ∀ x ∈ l.take (k + 1), q x := by
  intro x hx
  rw [List.take_succ_eq_append_getElem hk] at hx
  rcases List.mem_append.1 hx with hx | hx
  · exact h x hx
  · rw [List.mem_singleton.1 hx]; exact hp
theorem good_all {α : Type} {q : α → Prop} {l : List α} (h : ∀ x ∈ l.take l.length, q x) : ∀ x ∈ l, q x := by rwa [List.take_length] at h

set_option maxRecDepth 100000 in
set_option maxHeartbeats 16000000 in
theorem great_calls (p : Px) (v : Value) (m : Int) (w : World) (hp : PrAt w v p) (hlen : Lens p) (hm0 : 0 ≤ m) (hm1 : m ≤ 20000) : Calls Tryz.prog 4 #[v, .int .i64 m] w (GreatR p w) := by
  obtain ⟨vt, vf, rfl, ht, hf⟩ := hp
  have hb0 := alloc_below w (.cells #[vt, vf] 25)
  have HG := hid (TyRE.great_calls vt p.types _ (ht.below hb0))
  have HGN := hid (@great_no p.types)
  have HF := hid hf
  have HB0 := hid hb0
  have HLN := hid hlen
  clear hlen
  obtain ⟨ta, tc, rfl⟩ := ht.slice
  obtain ⟨fa, fc, rfl, hfl⟩ := hf.slice
  clear ht hf hb0
  cases hg : greatB p.types with
  | true =>
    rw [hg] at HG
    clear HGN HF hg
    generalize p.types.length = n1 at *
    generalize p.funcs.length = n2 at *
    go_enter Tryz.func4, Tryz.ntmps4
    go_wp2_with fail
    refine HG.out.mono ?_
    rintro e w1 ⟨rfl, hb1⟩
    have hbe := HB0.out.trans (hb1.mono HB0.out.size)
    clear HG hb1
    go_wp2
    go_ret
    exact ⟨true, rfl, (fun h => by cases h), hbe⟩
  | false =>
    rw [hg] at HG
    have HSM := hid (HGN.out hg)
    clear HGN hg
    by_cases hn : p.funcs.length ≤ 10
    rotate_left
    · have hgt : (10 : Int) < p.funcs.length := by omega
      clear HSM HF hn
      generalize p.types.length = n1 at *
      generalize p.funcs.length = n2 at *
      go_enter Tryz.func4, Tryz.ntmps4
      go_wp2_with fail
      refine HG.out.mono ?_
      rintro e w1 ⟨rfl, hb1⟩
      have hbe := HB0.out.trans (hb1.mono HB0.out.size)
      obtain ⟨f1, _, s1, k1⟩ := copyF (alloc_new _ _) hb1 (by simp only [World.size_alloc]; omega)
      have p1 := f1 1 (by simp)
      simp only [List.getElem_toArray, List.getElem_cons_succ, List.getElem_cons_zero] at p1
      clear HG hb1 f1 k1
      go_wp2
      go_ret
      exact ⟨true, rfl, (fun h => by cases h), hbe⟩
    have hgt : ¬ (10 : Int) < p.funcs.length := by omega
    go_enter Tryz.func4, Tryz.ntmps4
    go_wp2_with fail
    refine HG.out.mono ?_
    rintro e w1 ⟨rfl, hb1⟩
    have hbe := HB0.out.trans (hb1.mono HB0.out.size)
    obtain ⟨f1, _, s1, k1⟩ := copyF (alloc_new _ _) hb1 (by simp only [World.size_alloc]; omega)
    have HK := hid k1
    have HBE := hid hbe
    have p1 := f1 1 (by simp)
    simp only [List.getElem_toArray, List.getElem_cons_succ, List.getElem_cons_zero] at p1
    clear HG hb1 f1 k1 hbe
    go_wp2_with fail
    all_goals (try (exfalso; omega))
    go_loopg [5, 6] p.funcs.length (fun gk nv iv wr => ∃ k N : Nat, k + gk = p.funcs.length ∧ iv = .int .i64 k ∧ nv = .int .i64 N ∧ (N : Int) ≤ m ∧ (∀ f ∈ p.funcs.take k, GoodF f) ∧ Below w1.heap.size w1 wr)
    case atStart => exact ⟨0, 0, by omega, rfl, rfl, by simpa using hm0, by simp, Below.refl _ _⟩
    case round =>
      obtain ⟨k, N, hk, rfl, rfl, hN, hgood, hbr⟩ := hrel
      have HK1 := hid hk
      have HGOOD := hid hgood
      have hbw := HBE.out.trans (hbr.mono HBE.out.size)
      clear p1 s1
      obtain ⟨f1, _, s1, _⟩ := copyF HK.out hbr (Array.getElem?_eq_some_iff.1 HK.out).1
      have p1 := f1 1 (by simp)
      simp only [List.getElem_toArray, List.getElem_cons_succ, List.getElem_cons_zero] at p1
      clear f1 hgood
      by_cases hlt : k < p.funcs.length
      · obtain ⟨fb, foff, rfl, hfb, vb, c0, c1, hbl⟩ := (HF.out.below fnStays hbw).at k hlt
        have HT := hid (fun hq => good_take (q := GoodF) hlt HGOOD.out hq)
        have HLX := hid (HLN.out _ (List.getElem_mem hlt))
        have hkn : k ≤ 20 := by omega
        clear hk
        generalize p.funcs[k] = x at *
        obtain ⟨ba, bc, rfl, hbll⟩ := hbl.slice
        have HBL := hid hbl
        clear hbl c0
        by_cases h20 : x.blocks.length ≤ 20
        rotate_left
        · have hg20 : (20 : Int) < x.blocks.length := by omega
          go_wp2
          all_goals (try (exfalso; omega))
          go_ret
          exact ⟨true, rfl, (fun h => by cases h), hbw⟩
        have hg20 : ¬ (20 : Int) < x.blocks.length := by omega
        have HC1 := hid c1
        have HFB := hid hfb
        clear c1 hfb
        obtain ⟨wo, hwo⟩ : ∃ wo : World, wo = wr := ⟨wr, rfl⟩
        subst hwo
        obtain ⟨go, hgo⟩ : ∃ go : Nat, go = gk := ⟨gk, rfl⟩
        subst hgo
        have HBRo := hid hbr
        have HBWo := hid hbw
        have c1 := HC1.out
        clear hbr hbw
        have HP1o := hid (And.intro p1 s1)
        go_wp2_with fail
        all_goals (try (exfalso; omega))
        go_loopg [5, 7, 8, 9] x.blocks.length (fun gk nv qv _ _ wr => ∃ q M : Nat, q + gk = x.blocks.length ∧ qv = .int .i64 q ∧ nv = .int .i64 M ∧ (M : Int) ≤ m ∧ manyB (x.blocks.take q) ≤ M ∧ (∀ b ∈ x.blocks.take q, GoodB b) ∧ Below wo.heap.size wo wr)
        case atStart => exact ⟨0, N, by omega, rfl, rfl, hN, by simp [manyB_nil], by simp, Below.refl _ _⟩
        case round =>
          obtain ⟨q, M, hq, rfl, rfl, hM, hmb, hgb, hbq⟩ := hrel
          have HQ := hid hq
          have HMB := hid hmb
          have HGB := hid hgb
          have hb1q := HBRo.out.trans (hbq.mono HBRo.out.size)
          have hbwq := HBWo.out.trans (hbq.mono HBWo.out.size)
          clear c1 hmb hgb
          obtain ⟨f1, _, s1, _⟩ := copyF HK.out hb1q (Array.getElem?_eq_some_iff.1 HK.out).1
          have p1 := f1 1 (by simp)
          simp only [List.getElem_toArray, List.getElem_cons_succ, List.getElem_cons_zero] at p1
          have c1 := (hbq.cell (p := ⟨fb, foff + k * 2 + 1, none⟩) HFB.out).trans HC1.out
          clear f1
          by_cases hql : q < x.blocks.length
          · obtain ⟨bb, boff, hba, hbb, vi, b0, _, _, _, _, hins⟩ := (HBL.out.below blkStays hbq).at q hql
            subst hba
            have HTB := hid (fun hq => good_take (q := GoodB) hql HGB.out hq)
            have HMT := hid (manyB_take hql)
            have hq20 : q ≤ 20 := by omega
            have hyl := HLX.out _ (List.getElem_mem hql)
            have HIL : Hid (x.blocks[q].ins.length = x.blocks[q].ins.length) := rfl
            clear hq HIL
            generalize x.blocks[q] = y at *
            obtain ⟨ia, ic, rfl, hill⟩ := hins.slice
            have HIN := hid hins
            clear hins
            by_cases hM2 : (M : Int) + y.ins.length ≤ m
            rotate_left
            · have hbig : m < (M : Int) + y.ins.length := by omega
              go_wp2
              all_goals (try (exfalso; omega))
              go_ret
              exact ⟨true, rfl, (fun h => by cases h), hbwq⟩
            have hbig : ¬ m < (M : Int) + y.ins.length := by omega
            obtain ⟨wq, hwq⟩ : ∃ wq : World, wq = wr := ⟨wr, rfl⟩
            subst hwq
            obtain ⟨gq, hgq⟩ : ∃ gq : Nat, gq = gk := ⟨gk, rfl⟩
            subst hgq
            have HBQ := hid hbq
            have HBWQ := hid hbwq
            go_wp2_with fail
            all_goals (try (exfalso; omega))
            go_loopg [9] y.ins.length (fun gk zv wr => ∃ z : Nat, z + gk = y.ins.length ∧ zv = .int .i64 z ∧ (∀ u ∈ y.ins.take z, GoodI u) ∧ Below wq.heap.size wq wr)
            case atStart => exact ⟨0, by omega, rfl, by simp, Below.refl _ _⟩
            case round =>
              obtain ⟨z, hz, rfl, hgz, hbz⟩ := hrel
              have HZ := hid hz
              have HGZ := hid hgz
              have hbwz := HBWQ.out.trans (hbz.mono HBWQ.out.size)
              clear hgz
              by_cases hzl : z < y.ins.length
              · obtain ⟨ib, ioff, hia, hib, va, vf', _, _, _, _, _, i5, i6, hva, hvf⟩ := (HIN.out.below insStays hbz).at z hzl
                subst hia
                have HTZ := hid (fun hq => good_take (q := GoodI) hzl HGZ.out hq)
                have hz300 : z ≤ 20000 := by omega
                clear hz
                obtain ⟨va1, vc1, rfl, hl1⟩ := ints_slice hva
                obtain ⟨vf1, vfc1, rfl, hl2⟩ := ints_slice hvf
                clear hva hvf
                generalize y.ins[z] = u at *
                by_cases ha : u.args.length ≤ 20
                rotate_left
                · have ha2 : (20 : Int) < u.args.length := by omega
                  go_wp2
                  all_goals (try (exfalso; omega))
                  go_ret
                  exact ⟨true, rfl, (fun h => by cases h), hbwz⟩
                have ha2 : ¬ (20 : Int) < u.args.length := by omega
                by_cases hf2 : u.frm.length ≤ 20
                rotate_left
                · have ha3 : (20 : Int) < u.frm.length := by omega
                  go_wp2
                  all_goals (try (exfalso; omega))
                  go_ret
                  exact ⟨true, rfl, (fun h => by cases h), hbwz⟩
                have ha3 : ¬ (20 : Int) < u.frm.length := by omega
                have HT2 := hid (HTZ.out ⟨ha, hf2⟩)
                clear HTZ
                go_wp2
                all_goals (try (exfalso; omega))
                go_roundg (gk - 1)
                case measure => have := HZ.out; omega
                case rel => exact ⟨z + 1, by have := HZ.out; omega, by go_num, HT2.out, hbz⟩
              · obtain rfl : z = y.ins.length := by omega
                have HT2 := hid (HTB.out (good_all HGZ.out))
                have hboz := HBQ.out.trans (hbz.mono HBQ.out.size)
                clear hz
                go_wp2
                all_goals (try (exfalso; omega))
                go_roundg (gq - 1)
                case measure => have := HQ.out; omega
                case rel => exact ⟨q + 1, M + y.ins.length, by have := HQ.out; omega, by go_num, by go_num, by simpa using hM2, by have := HMB.out; rw [HMT.out]; omega, HT2.out, hboz⟩
          · obtain rfl : q = x.blocks.length := by omega
            have HTF : Hid (∀ f ∈ p.funcs.take (k + 1), GoodF f) := HT.out ⟨h20, by have := HMB.out; rw [List.take_length] at this; omega, good_all HGB.out⟩
            clear hq
            go_wp2
            all_goals (try (exfalso; omega))
            go_roundg (go - 1)
            case measure => have := HK1.out; omega
            case rel => exact ⟨k + 1, M, by have := HK1.out; omega, by go_num, rfl, hM, HTF.out, hb1q⟩
      · obtain rfl : k = p.funcs.length := by omega
        have HALL := hid (good_all HGOOD.out)
        clear hk
        generalize hn2 : p.funcs.length = n2 at *
        have HN2 := hid hn2
        clear hn2
        go_wp2
        go_ret
        exact ⟨false, rfl, fun _ => ⟨Nat.le_trans HSM.out.1 (by decide), fun x hx => Nat.le_trans (HSM.out.2 x hx) (by decide), by rw [HN2.out]; omega, fun f hf => Nat.le_trans (HALL.out f hf).1 (by decide), fun f hf => by have := (HALL.out f hf).2.1; omega, fun f hf b hb x hx => ⟨Nat.le_trans ((HALL.out f hf).2.2 b hb x hx).1 (by decide), Nat.le_trans ((HALL.out f hf).2.2 b hb x hx).2 (by decide)⟩⟩, hbw⟩
end Go.Proofs.YtimnjkdhcnhkoaaGreatDoor.ShR
