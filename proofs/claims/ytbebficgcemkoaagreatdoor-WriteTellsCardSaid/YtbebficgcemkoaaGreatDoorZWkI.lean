/- Walk over the writer's args. -/
import Derived.Test.YtbebficgcemkoaaGreatDoorZWkT
namespace Go.Proofs.YtbebficgcemkoaaGreatDoor.WkI
open Go.RowKit Go.Lib IntO SetP TyM ShM ShP LxM LxP LxJ RwO RgZ NumP WrM WrI WrP WkM WkA WkL WkT Aft

theorem elemP : Elem Tryz.prog 140 144 .nilIface 16 := ⟨Tryz.underlying140, by kernel_rfl, rfl, by decide⟩
theorem val_one (p : Pt) : p.val.oneCell' = true := by cases p <;> rfl
theorem vals_one (l : List Pt) : ∀ u ∈ vals l, u.oneCell' = true := by
 intro u hu
 obtain ⟨p, _, rfl⟩ := List.mem_map.1 hu
 exact val_one p
theorem vals_append (a b : List Pt) : vals (a ++ b) = vals a ++ vals b := by simp [vals]
theorem vals_len (l : List Pt) : (vals l).length = l.length := by simp [vals]
/-- the parts of a phi's pairs -/
def phiP (l : List (Int × Int)) : List Pt := l.flatMap fun p => [.mark 98 p.1, .mark 114 p.2]
theorem phiP_words (l : List (Int × Int)) : wordsAll (phiP l) = pairW l := by
 induction l with
 | nil => rfl
 | cons p l ih =>
  have : phiP (p :: l) = .mark 98 p.1 :: .mark 114 p.2 :: phiP l := rfl
  rw [this, wordsAll_cons, wordsAll_cons, ih]
  rfl
theorem phiP_len (l : List (Int × Int)) : (phiP l).length = 2 * l.length := by
 induction l with
 | nil => rfl
 | cons p l ih =>
  have : phiP (p :: l) = .mark 98 p.1 :: .mark 114 p.2 :: phiP l := rfl
  rw [this, List.length_cons, List.length_cons, ih, List.length_cons]
  omega
theorem phiP_append (a b : List (Int × Int)) : phiP (a ++ b) = phiP a ++ phiP b := by simp [phiP]
theorem phiP_at (w : World) (l : List (Int × Int)) (h : ∀ p ∈ l, I64 p.1 ∧ I64 p.2) : ∀ p ∈ phiP l, p.At w := by
 intro p hp
 obtain ⟨q, hq, h2⟩ := List.mem_flatMap.1 hp
 simp only [List.mem_cons, List.not_mem_nil, or_false] at h2
 rcases h2 with rfl | rfl
 ·exact (h q hq).1
 ·exact (h q hq).2
/-- parts that a call answers, in a row of its own -/
def ArgsR (x : Ix) (va : Value) (w : World) (e : Ending) (w' : World) : Prop := ∃ u l, e = .returned u ∧ w'.ownsRow w.heap.size 144 1 u l.length (vals l) ∧ (∀ wy, IntsAt wy va x.args → ∀ p ∈ l, p.At wy) ∧ wordsAll l = argW x ∧ l.length ≤ 100 ∧ Below w.heap.size w w'

set_option maxRecDepth 100000 in
set_option maxHeartbeats 8000000 in
theorem args_calls (x : Ix) (va vf : Value) (w : World) (ha : IntsAt w va x.args) (hf : IntsAt w vf x.frm) (hl : x.args.length ≤ 40) (hlf : x.op = 22 → x.frm.length = x.args.length) (h1 : ∀ n ∈ x.args, I64 n) (h2 : ∀ n ∈ x.frm, I64 n) :
  Calls Tryz.prog 96 #[ixV x va vf] w (ArgsR x va w) := by
 obtain ⟨aa, ac, rfl, _⟩ := TyP.ints_slice ha
 obtain ⟨fa, fc, rfl, _⟩ := TyP.ints_slice hf
 have HA := hid (And.intro ha (And.intro (show x.args.length ≤ 1000 by omega) h1))
 have HF := hid hf
 have HL := hid hl
 have HLF := hid hlf
 have HI1 := hid h1
 have HI2 := hid h2
 have HE : Hid (argW x = if x.op = 22 then pairW (x.frm.zip x.args) else x.args.map (mkw 114)) := rfl
 clear ha hf hl hlf h1 h2
 obtain ⟨w1, hw1⟩ : ∃ X, X = w.alloc (.cells #[.int .u8 x.op, .int .i64 x.typ, .int .i64 x.a, .int .i64 x.b, .int .i64 x.n, .slice aa x.args.length ac, .slice fa x.frm.length fc] 57) := ⟨_, rfl⟩
 have k0 : w1.heap[w.heap.size]? = some (.cells #[.int .u8 x.op, .int .i64 x.typ, .int .i64 x.a, .int .i64 x.b, .int .i64 x.n, .slice aa x.args.length ac, .slice fa x.frm.length fc] 57 (0, 0)) := by rw [hw1]; exact heap_alloc_new _ _
 have hb1 : Below w.heap.size w w1 := by rw [hw1]; exact LxP.alloc_below _ _
 have HW1 := hid hw1
 have HB1 := hid hb1
 have l0 := later (cell_at k0 0 _ rfl)
 have l5 := later (cell_at k0 5 _ rfl)
 have l6 := later (cell_at k0 6 _ rfl)
 simp only [List.getElem_toArray, List.getElem_cons_zero, List.getElem_cons_succ] at l0 l5 l6
 have hr : Aft w1 w1 := Aft.refl w1
 clear hw1 hb1 k0
 go_enter Tryz.func96, Tryz.ntmps96
 by_cases q : x.op = 22
 rotate_left
 ·have HE1 := hid (HE.out.trans (if_neg q))
  clear HE
  go_wp2_with fail
  rw [← HW1.out]
  go_wp2
  go_ret
  have hsz : w1.heap.size = w.heap.size + 1 := by rw [HW1.out, World.size_alloc]
  exact ⟨_, [.marks 114 x.args (.slice aa x.args.length ac)], rfl, by rw [← hsz]; exact LxP.owns_base (LxP.ownsRow_lit w1 [Pt.val (.marks 114 x.args (.slice aa x.args.length ac))] _ 1 rfl (by decide)) (by omega), (fun wy hy => all1 ⟨hy, HA.out.2⟩), by rw [HE1.out]; simp [wordsAll, Pt.words], by simp, HB1.out.trans ((LxP.alloc_below _ _).mono HB1.out.size)⟩
 have HE1 := hid (HE.out.trans (if_pos q))
 have hlen := HLF.out q
 have HZ : Hid (∀ k (h : k < x.args.length) (h2 : k < x.frm.length), phiP ((x.frm.zip x.args).take (k + 1)) = phiP ((x.frm.zip x.args).take k) ++ [.mark 98 x.frm[k], .mark 114 x.args[k]]) := fun k h h2 => by
  rw [List.take_succ_eq_append_getElem (by rw [List.length_zip]; omega), List.getElem_zip, phiP_append]
  rfl
 have HLEN := hid hlen
 clear HE HLF hlen
 rw [q] at HW1 l0
 go_wp2_with fail
 rw [← HW1.out]
 go_wp2
 go_loopg [3, 4, 5, 17] x.args.length (fun gk v _ _ i wr => ∃ (k : Nat), k + gk = x.args.length ∧ i = .int .i64 k ∧ Hid (wr.ownsRow w1.heap.size 144 1 v (2 * k) (vals (phiP ((x.frm.zip x.args).take k)))) ∧ Aft w1 wr)
 case atStart => exact ⟨0, by omega, rfl, World.ownsRow_nil _ _ _ _, hr⟩
 case round =>
  obtain ⟨k, hk, rfl, HO, hw⟩ := hrel
  have HK := hid hk
  clear hk
  by_cases hlt : k < x.args.length
  rotate_left
  ·obtain rfl : k = x.args.length := by have := HK.out; omega
   have hzl : (x.frm.zip x.args).length = x.args.length := by rw [List.length_zip, HLEN.out, Nat.min_self]
   have HZA : Hid (∀ p ∈ x.frm.zip x.args, I64 p.1 ∧ I64 p.2) := fun p hp => ⟨HI2.out _ (List.of_mem_zip hp).1, HI1.out _ (List.of_mem_zip hp).2⟩
   have HO2 := hid HO.out
   rw [List.take_of_length_le (by omega)] at HO2
   have hpl : 2 * x.args.length = (phiP (x.frm.zip x.args)).length := by rw [phiP_len, hzl]
   rw [hpl] at HO2
   have HPL := hid hpl
   clear HO HZ hlt HA HF l0 l5 l6 hpl hzl HK
   have HPW := hid (phiP_words (x.frm.zip x.args))
   have HPA := hid (fun wy => phiP_at wy _ HZA.out)
   have HPN : Hid ((phiP (x.frm.zip x.args)).length ≤ 100) := by have := HL.out; have := HPL.out; show (phiP (x.frm.zip x.args)).length ≤ 100; omega
   have hbw := HB1.out.trans (hw.mono HB1.out.size)
   have HBW := hid hbw
   generalize phiP (x.frm.zip x.args) = ps at *
   obtain ⟨p6, c6, rfl⟩ := own_form HO2.out
   generalize x.args.length = n1 at *
   go_wp2
   go_ret
   exact ⟨_, ps, rfl, LxP.owns_base HO2.out HB1.out.size, (fun wy _ => HPA.out wy), by rw [HE1.out, HPW.out], HPN.out, HBW.out⟩
  have hlt2 : k < x.frm.length := by have := HLEN.out; omega
  have hbw := HB1.out.trans (hw.mono HB1.out.size)
  obtain ⟨b1, o1, rfl, hb1, d1⟩ := TyP.ints_at (HA.out.1.below hbw) k hlt
  obtain ⟨b2, o2, rfl, hb2, d2⟩ := TyP.ints_at (HF.out.below hbw) k hlt2
  have HZK := hid (HZ.out k hlt hlt2)
  have hki : (k : Int) < x.args.length := by omega
  have hkf : (k : Int) < x.frm.length := by omega
  have HKL : Hid (k ≤ 40) := by have := HL.out; show k ≤ 40; omega
  have HK2 : Hid (gk = x.args.length - k ∧ k < x.args.length) := ⟨by have := HK.out; omega, hlt⟩
  have HM1 : Hid (I64 x.args[k]) := HI1.out _ (List.getElem_mem hlt)
  have HM2 : Hid (I64 x.frm[k]) := HI2.out _ (List.getElem_mem hlt2)
  have HL2 := hid HLEN.out
  clear HZ hbw HK HI1 HI2 HA HF HLEN HL
  generalize x.args[k] = na at *
  generalize x.frm[k] = nf at *
  clear hlt hlt2
  generalize hn1 : x.args.length = n1 at *
  generalize hn2 : x.frm.length = n2 at *
  have HN1 := hid hn1
  clear hn1 hn2
  obtain ⟨va, vc, rfl⟩ := own_form HO.out
  have HCE := hid (parts_lit (w := wr) (l := [.mark 98 nf, .mark 114 na]) (n := 2) rfl (by decide) rfl (allc HM2.out (all1 HM1.out)) 144).1
  go_wp2_with (at_builtin; refine wpList_append_list rfl (.tmp 22) (.tmp 33) elemP rfl w1.heap.size (.slice va (2 * k) vc) rfl (2 * k) _ (LxP.ownsRow_below HO.out (LxP.alloc_below _ _)) (by have := HKL.out; omega) _ _ rfl HCE.out (vals_one _) (by simp [vals]) (by have := hw.size; rw [World.size_alloc]; omega) ?_)
  intro v6 w6 hown6 hgr6
  have hbk : Aft w1 w6 := (hw.alloc _).grown hgr6 (by have := (hw.alloc (.cells #[Pt.val (.mark 98 nf), Pt.val (.mark 114 na)] 144)).size; exact this) (fun g hg => (HO.out.lt g hg).1)
  obtain ⟨p6, c6, h60⟩ := own_form hown6
  subst h60
  rw [← vals_append, ← HZK.out] at hown6
  have HO6 := hid hown6
  clear hown6 hgr6 HCE HO HZK HM1 HM2 d1 d2 hw
  go_wp2
  go_roundg (gk - 1)
  case measure => have := HK2.out; omega
  case rel => exact ⟨k + 1, by have := HK2.out; omega, by go_num, HO6, hbk⟩
end Go.Proofs.YtbebficgcemkoaaGreatDoor.WkI
