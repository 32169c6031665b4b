/- Plain facts on programs that are well formed. One of the types in memory, in every world behind; of what kind types are. Registers' types, in plain. What lives in a program that is well formed is set, and has a type: in plain. Walk over fescuelaw12.chapter. Walk over fescuelaw12.alive. Plain facts: registers' types as a list, what is set by rulers from one to the next, and what keeps a program from being well formed. -/
import Derived.Test.YtpejpnffcepdlaaGreatDoorZLvQToSvK
import Derived.Test.YtpejpnffcepdlaaGreatDoorZIntOToSwXd
import Derived.Test.YtpejpnffcepdlaaGreatDoorZShIToIntG
import Derived.Deep.RegionHeld3
namespace Go.Proofs.YtpejpnffcepdlaaGreatDoor.SvP
open TyM ShM ShP ShE ShH ShI ShN ShJ ShK ShL ShBP FwM FwC FwP FwQ FdM FdQ FeP FxL LvM LvQ LuM SoM SvQ

/-! what shape's Check gives of an instruction -/
structure InsOk (nt nf nb nr : Nat) (x : Ix) : Prop where
 op1 : 1 ≤ x.op
 op2 : x.op ≤ 22
 uses : ∀ r ∈ usesOf x, 0 ≤ r ∧ r < nr
 typ : answersB x.op = true → 0 ≤ x.typ ∧ x.typ < nt
 typ0 : answersB x.op = false → x.typ = 0
 n : x.op = 3 ∨ x.op = 18 → 0 ≤ x.n ∧ x.n < nf
 phi : x.op = 22 → x.frm.length = x.args.length ∧ 1 ≤ x.frm.length ∧ x.frm.length ≤ 16 ∧ ∀ b ∈ x.frm, 0 ≤ b ∧ b < nb
 other : x.op ≠ 22 → x.frm = [] ∧ x.args.length ≤ 4
theorem insOk_of {nt nr nf nb : Nat} {x : Ix} (h : mayIR nt (nr : Int) nf nb x = true) : InsOk nt nf nb nr x := by
 unfold mayIR at h
 split at h
 ·cases h
 rename_i h1
 split at h
 ·cases h
 split at h
 ·cases h
 rename_i h3
 have hl : lowB (nr : Int) (usesOf x) = true := by
  cases e : lowB (nr : Int) (usesOf x) with
  | true => rfl
  | false => exact absurd (.inr (.inr (.inl e))) h1
 have hn : mayNR nf x = true := by
  cases e : mayNR nf x with
  | true => rfl
  | false => exact absurd (.inr (.inr (.inr e))) h1
 have o1 : 1 ≤ x.op := by
  refine Classical.byContradiction fun hh => h1 (.inl (by omega))
 have o2 : x.op ≤ 22 := by
  refine Classical.byContradiction fun hh => h1 (.inr (.inl (by omega)))
 refine ⟨o1, o2, fun r hr => low_mem hl hr, fun ha => ?_, fun ha => ?_, fun he => ?_, fun he => ?_, fun he => ?_⟩
 ·refine Classical.byContradiction fun hh => h3 (.inl ⟨ha, by omega⟩)
 ·refine Classical.byContradiction fun hh => h3 (.inr ⟨ha, hh⟩)
 ·unfold mayNR at hn
  rw [if_neg (by omega), if_pos he] at hn
  exact of_decide_eq_true hn
 ·rw [if_pos he] at h
  simp only [Bool.and_eq_true, decide_eq_true_eq] at h
  exact ⟨h.1.1, h.1.2.1, h.1.2.2, fun b hb => low_mem h.2 hb⟩
 ·rw [if_neg he] at h
  simp only [decide_eq_true_eq] at h
  exact ⟨List.eq_nil_of_length_eq_zero h.1, h.2⟩
theorem ins_ok {p : Px} {f : Fx} (h : chkP p = 0) (ho : POk p) (hf : f ∈ p.funcs) {b : Bx} (hb : b ∈ f.blocks) {x : Ix} (hx : x ∈ b.ins) : InsOk p.types.length p.funcs.length f.blocks.length (parOf p.types f.sig + manyB f.blocks) x := by
 have hm := (chk_zero h).2.2.2 f hf
 unfold mayF at hm
 split at hm
 ·cases hm
 split at hm
 ·cases hm
 split at hm
 ·cases hm
 have hbb := List.all_eq_true.1 hm b hb
 unfold mayBl at hbb
 simp only [Bool.and_eq_true] at hbb
 have h2 := List.all_eq_true.1 hbb.2 x hx
 rw [mayI_eq ((ho f hf b hb).2 x hx).1] at h2
 exact insOk_of h2
theorem insOf_at {l : List Bx} {b k : Nat} {x : Ix} (h : (insAt l b)[k]? = some x) : insOf l b k = x := by unfold insOf; rw [h]; rfl
theorem insAt_mem {l : List Bx} {b k : Nat} {x : Ix} (h : (insAt l b)[k]? = some x) (hb : b < l.length) : ∃ c, c ∈ l ∧ x ∈ c.ins := by
 refine ⟨l[b], List.getElem_mem hb, ?_⟩
 unfold insAt at h
 rw [List.getElem?_eq_getElem hb] at h
 exact List.mem_of_getElem? h

theorem snd_zero {p : Px} (h : sndE p = 0) : chkP p = 0 ∧ (∀ f ∈ p.funcs, fnB p f = true) ∧ firstB p = true := by
 unfold sndE at h
 split at h
 ·rename_i hh; exact absurd h hh
 ·rename_i hh
  split at h
  ·rename_i h2; exact ⟨by omega, List.all_eq_true.1 h2.1, h2.2⟩
  ·cases h
theorem fn_parts {p : Px} {f : Fx} (h : fnB p f = true) : (reachedL f.blocks).length = f.blocks.length ∧ ∀ b, b < f.blocks.length → (∀ k, k < (insAt f.blocks b).length → rightB p f b k = true) ∧ SvQ.endB p f b = true := by
 unfold fnB at h
 simp only [Bool.and_eq_true, decide_eq_true_eq, List.all_eq_true, List.mem_range] at h
 exact h
theorem filter_all {α : Type} {q : α → Bool} : ∀ {l : List α}, (l.filter q).length = l.length → ∀ x ∈ l, q x = true
 | [], _, x, hx => by cases hx
 | y :: l, h, x, hx => by
  have h2 := List.length_filter_le q l
  rw [List.filter_cons] at h
  split at h
  ·rename_i hy
   simp only [List.length_cons] at h
   rcases List.mem_cons.1 hx with e | hx
   ·rw [e]; exact hy
   ·exact filter_all (by omega) x hx
  ·simp only [List.length_cons] at h
   omega
theorem all_reached {l : List Bx} (h : (reachedL l).length = l.length) {b : Nat} (hb : b < l.length) : b ∈ reachedL l := by
 unfold reachedL at h ⊢
 rw [List.mem_filter]
 exact ⟨List.mem_range.2 hb, filter_all (by rw [h, List.length_range]) b (List.mem_range.2 hb)⟩
theorem right_parts {p : Px} {f : Fx} {b k : Nat} {x : Ix} (hx : (insAt f.blocks b)[k]? = some x) (h : rightB p f b k = true) : typesB p.types f (usesOf x) = true ∧ typedB p x ((usesOf x).map (typeI p.types f)) = true ∧
  (x.op = 22 → phiB (parOf p.types f.sig) f.blocks b k x = true) ∧ (x.op ≠ 22 → setsB (parOf p.types f.sig) f.blocks (usesOf x) b k = true) := by
 unfold rightB at h
 rw [insOf_at hx] at h
 simp only [Bool.and_eq_true] at h
 obtain ⟨h1, h2, h3⟩ := h
 unfold typesL at h2
 rw [if_pos h1] at h2
 refine ⟨h1, h2, fun e => ?_, fun e => ?_⟩
 ·rwa [if_pos e] at h3
 ·rwa [if_neg e] at h3
theorem phi_parts {par : Nat} {l : List Bx} {b k : Nat} {x : Ix} (h : phiB par l b k x = true) : x.frm = ints (aheadL l b) ∧ (k = 0 ∨ (insOf l b (k - 1)).op = 22) ∧ ∀ q ∈ x.frm.zip x.args, isSetL par l q.2 q.1 (insAt l q.1.toNat).length = true := by
 unfold phiB at h
 simp only [Bool.and_eq_true, decide_eq_true_eq, List.all_eq_true] at h
 exact h
theorem end_parts {p : Px} {f : Fx} {b : Nat} (h : SvQ.endB p f b = true) : typesB p.types f (endsOf (endAt f.blocks b)) = true ∧ setsB (parOf p.types f.sig) f.blocks (endsOf (endAt f.blocks b)) b (insAt f.blocks b).length = true ∧ (0 : Int) ∉ toE (endAt f.blocks b) := by
 unfold SvQ.endB at h
 simp only [Bool.and_eq_true, decide_eq_true_eq] at h
 exact ⟨h.1, h.2.1, h.2.2.1⟩
theorem wf_of {p : Px} (h : sndE p = 0) (ho : POk p) {f : Fx} (hf : f ∈ p.funcs) : Wf (parOf p.types f.sig) f.blocks := by
 obtain ⟨hc, hall, _⟩ := snd_zero h
 obtain ⟨hr, hb⟩ := fn_parts (hall f hf)
 obtain ⟨hlow, hpos, _⟩ := low_of hc ho hf
 refine ⟨hlow, hpos, fun b hbl => (reached_mem hlow hpos b).1 (all_reached hr hbl), fun b k x hbl hx hne r hu => ?_, fun b hbl r hu => ?_, fun j b x r hj hbl hx he hz => ?_⟩
 ·have hk := (List.getElem?_eq_some_iff.1 hx).1
  obtain ⟨_, _, _, h4⟩ := right_parts hx ((hb b hbl).1 k hk)
  exact List.all_eq_true.1 (h4 hne) r hu
 ·obtain ⟨_, h2, _⟩ := end_parts (hb b hbl).2
  exact List.all_eq_true.1 h2 r hu
 ·obtain ⟨k, hk, he2⟩ := List.getElem_of_mem hx
  have hx2 : (insAt f.blocks j)[k]? = some x := by rw [List.getElem?_eq_getElem hk, he2]
  obtain ⟨_, _, h3, _⟩ := right_parts hx2 ((hb j hj).1 k hk)
  have h5 := (phi_parts (h3 he)).2.2 _ hz
  rwa [Int.toNat_natCast] at h5
/-- no block goes to block 0 -/
theorem none_first {p : Px} (h : sndE p = 0) (ho : POk p) {f : Fx} (hf : f ∈ p.funcs) : aheadL f.blocks 0 = [] := by
 obtain ⟨hc, hall, _⟩ := snd_zero h
 obtain ⟨_, hb⟩ := fn_parts (hall f hf)
 obtain ⟨hlow, _, _⟩ := low_of hc ho hf
 refine List.eq_nil_iff_forall_not_mem.2 fun a ha => ?_
 obtain ⟨hal, hm⟩ := ahead_mem.1 ha
 exact (end_parts (hb a hal).2).2.2 ((succ_mem hlow hal).1 hm)
/-- each other block is come to -/
theorem some_ahead {p : Px} (h : sndE p = 0) (ho : POk p) {f : Fx} (hf : f ∈ p.funcs) {b : Nat} (hb : b < f.blocks.length) (h0 : b ≠ 0) : aheadL f.blocks b ≠ [] := by
 obtain ⟨hc, hall, _⟩ := snd_zero h
 obtain ⟨hr, _⟩ := fn_parts (hall f hf)
 obtain ⟨hlow, hpos, _⟩ := low_of hc ho hf
 intro e
 rcases (reached_step hlow hpos b).1 (all_reached hr hb) with e2 | ⟨a, ha, _⟩
 ·exact h0 e2
 ·rw [e] at ha; cases ha
theorem phi_of {p : Px} (h : sndE p = 0) (ho : POk p) {f : Fx} (hf : f ∈ p.funcs) {b k : Nat} {x : Ix} (hb : b < f.blocks.length) (hx : (insAt f.blocks b)[k]? = some x) (he : x.op = 22) :
  x.args.length = (aheadL f.blocks b).length ∧ ∀ y, 0 < k → (insAt f.blocks b)[k - 1]? = some y → y.op = 22 := by
 obtain ⟨hc, hall, _⟩ := snd_zero h
 obtain ⟨_, hbb⟩ := fn_parts (hall f hf)
 have hk := (List.getElem?_eq_some_iff.1 hx).1
 obtain ⟨_, _, h3, _⟩ := right_parts hx ((hbb b hb).1 k hk)
 obtain ⟨h5, h6, _⟩ := phi_parts (h3 he)
 obtain ⟨c, hcm, hxm⟩ := insAt_mem hx hb
 have hok := ins_ok hc ho hf hcm hxm
 refine ⟨by rw [← (hok.phi he).1, h5, ints_length], fun y hy0 hy => ?_⟩
 rcases h6 with e | e
 ·omega
 ·rwa [insOf_at hy] at e

/-! types -/
theorem ty_at {t : List Ty} {k : Nat} {x : Ty} (h : t[k]? = some x) : tyN t (k : Int) = x := by unfold tyN; rw [Int.toNat_natCast, h]; rfl
theorem isK_at {t : List Ty} {k kind : Int} (h : isK t k kind = true) : 0 ≤ k ∧ (tyN t k).kind = kind := by
 unfold isK at h
 simp only [Bool.and_eq_true, decide_eq_true_eq] at h
 exact h
theorem isK_low {t : List Ty} {k kind : Int} (h : isK t k kind = true) (hk : kind ≠ 0) : k < t.length := by
 obtain ⟨h0, h1⟩ := isK_at h
 refine Classical.byContradiction fun hh => hk ?_
 rw [← h1]
 unfold tyN
 rw [List.getElem?_eq_none (by omega)]
 rfl
theorem isK_plain {t : List Ty} {k kind : Int} (h : isK t k kind = true) (hk : kind = 1 ∨ kind = 2 ∨ kind = 3) : plainB t k = true := by
 obtain ⟨h0, h1⟩ := isK_at h
 have hl := isK_low h (by omega)
 refine plainB_iff.2 ⟨h0, t[k.toNat]'(by omega), List.getElem?_eq_getElem (by omega), ?_⟩
 unfold tyN at h1
 rw [List.getElem?_eq_getElem (show k.toNat < t.length by omega)] at h1
 have h2 : (t[k.toNat]'(by omega)).kind = kind := h1
 rw [h2]
 unfold scalarK
 exact decide_eq_true (by omega)
theorem good_at {t : List Ty} (h : chkT t = 0) {k : Int} (h0 : 0 ≤ k) (h1 : k < t.length) : mayX t k.toNat (tyN t k) = true := by
 have hg := (chkT_zero h).2 k.toNat (by omega)
 obtain ⟨x, hx, hm, _⟩ := goodB_iff.1 hg
 unfold tyN
 rw [hx]
 exact hm
/-- of a function's type: its parts, and what it answers -/
theorem fn_plain {t : List Ty} (h : chkT t = 0) {k : Int} (hk : isK t k 3 = true) : plainB t (tyN t k).elem = true ∧ ∀ n ∈ (tyN t k).parts, plainB t n = true := by
 obtain ⟨h0, h1⟩ := isK_at hk
 have hm := good_at h h0 (isK_low hk (by decide))
 unfold mayX at hm
 rw [if_neg (by omega), if_neg (by omega), if_pos h1] at hm
 simp only [Bool.and_eq_true] at hm
 exact ⟨hm.2.1, List.all_eq_true.1 hm.2.2.1⟩
theorem partK_ptr {t : List Ty} {k m : Int} (h : partK t k m = true) : isK t k 2 = true := by
 unfold partK toK at h
 simp only [Bool.and_eq_true, decide_eq_true_eq] at h
 obtain ⟨h0, h1⟩ := h
 split at h1
 ·assumption
 ·omega
/-- WHAT AN INSTRUCTION ANSWERS IS A SCALAR'S -/
theorem typed_plain {p : Px} (hc : chkP p = 0) {x : Ix} {l : List Int} (ha : answersB x.op = true) (h1 : 1 ≤ x.op) (h2 : x.op ≤ 22) (hn : x.op = 3 ∨ x.op = 18 → 0 ≤ x.n ∧ x.n < p.funcs.length) (h : typedB p x l = true) : plainB p.types x.typ = true := by
 obtain ⟨hct, _, _, hmf⟩ := chk_zero hc
 have hsig : x.op = 3 ∨ x.op = 18 → isK p.types (sigAt p x.n) 3 = true := by
  intro he
  obtain ⟨n0, n1⟩ := hn he
  have hlt : x.n.toNat < p.funcs.length := by omega
  have hm := may_zero (hmf _ (List.getElem_mem hlt))
  unfold sigAt
  rw [List.getElem?_eq_getElem hlt]
  unfold isK
  simp only [Bool.and_eq_true, decide_eq_true_eq]
  exact ⟨hm.1.1, hm.2.1⟩
 unfold answersB at ha
 have ha := of_decide_eq_true ha
 unfold typedB at h
 by_cases e1 : x.op = 1 ∨ x.op = 20
 ·rw [if_pos e1] at h
  exact isK_plain h (by omega)
 rw [if_neg e1] at h
 by_cases e2 : x.op = 2
 ·rw [if_pos e2] at h
  rcases Bool.or_eq_true_iff.1 h with h | h
  ·exact isK_plain h (by omega)
  ·exact isK_plain h (by omega)
 rw [if_neg e2] at h
 by_cases e3 : x.op = 3
 ·rw [if_pos e3] at h
  rw [of_decide_eq_true h]
  exact isK_plain (hsig (.inl e3)) (by omega)
 rw [if_neg e3] at h
 by_cases e4 : 4 ≤ x.op ∧ x.op ≤ 9
 ·rw [if_pos e4] at h
  simp only [Bool.and_eq_true] at h
  exact isK_plain h.2.2 (by omega)
 rw [if_neg e4] at h
 by_cases e5 : x.op = 10
 ·rw [if_pos e5] at h
  simp only [Bool.and_eq_true] at h
  exact isK_plain h.2.2 (by omega)
 rw [if_neg e5] at h
 by_cases e6 : x.op = 11 ∨ x.op = 12
 ·rw [if_pos e6] at h
  exact isK_plain h (by omega)
 rw [if_neg e6, if_neg (by omega), if_neg (by omega)] at h
 by_cases e7 : 14 ≤ x.op ∧ x.op ≤ 17
 ·rw [if_pos e7] at h
  unfold memB at h
  by_cases f1 : x.op = 14
  ·rw [if_pos f1] at h
   simp only [Bool.and_eq_true] at h
   exact isK_plain (partK_ptr h.2) (by omega)
  rw [if_neg f1] at h
  by_cases f2 : x.op = 15
  ·rw [if_pos f2] at h
   simp only [Bool.and_eq_true] at h
   exact isK_plain (partK_ptr h.2.2) (by omega)
  rw [if_neg f2, if_pos (by omega)] at h
  simp only [Bool.and_eq_true, decide_eq_true_eq] at h
  rw [h.2]
  have h5 := h.1
  unfold scalK at h5
  simp only [Bool.and_eq_true] at h5
  exact h5.2
 rw [if_neg e7] at h
 by_cases e8 : x.op = 18
 ·rw [if_pos e8] at h
  unfold callK at h
  simp only [Bool.and_eq_true, decide_eq_true_eq] at h
  rw [← h.2.2]
  exact (fn_plain hct h.1).1
 rw [if_neg e8] at h
 by_cases e9 : x.op = 19
 ·rw [if_pos e9] at h
  unfold callK at h
  simp only [Bool.and_eq_true, decide_eq_true_eq] at h
  rw [← h.2.2]
  exact (fn_plain hct h.1).1
 ·rw [if_neg e9] at h
  simp only [Bool.and_eq_true] at h
  have h5 := h.2
  unfold scalK at h5
  simp only [Bool.and_eq_true] at h5
  exact h5.2
end Go.Proofs.YtpejpnffcepdlaaGreatDoor.SvP
namespace Go.Proofs.YtpejpnffcepdlaaGreatDoor.SwA
open Go.RowKit Go.Lib SetP IntO TyM TyP TyB ShM Aft FwP FwQ SvQ SvP

/-- one of the types in memory, in every world behind -/
theorem ty_later {W : World} {ta : Option Addr} {n c : Nat} {t : List Ty} (h : TysAt W (.slice ta n c) t) (k : Nat) (hk : k < t.length) : ∃ g off pa pc, ta = some ⟨g, off, none⟩ ∧ (∀ w', Aft W w' → w'.cell? ⟨g, off + k * 4, none⟩ = some (.int .u8 (tyN t k).kind)) ∧ (∀ w', Aft W w' → w'.cell? ⟨g, off + k * 4 + 1, none⟩ = some (.int .i64 (tyN t k).elem)) ∧
  (∀ w', Aft W w' → w'.cell? ⟨g, off + k * 4 + 2, none⟩ = some (.int .i64 (tyN t k).many)) ∧ (∀ w', Aft W w' → w'.cell? ⟨g, off + k * 4 + 3, none⟩ = some (.slice pa (tyN t k).parts.length pc)) ∧ (∀ w', Aft W w' → IntsAt w' (.slice pa (tyN t k).parts.length pc) (tyN t k).parts) := by
 obtain ⟨g, off, rfl, hlt, pv, c0, c1, c2, c3, hp⟩ := h.at k hk
 have he : tyN t k = t[k] := by unfold tyN; rw [Int.toNat_natCast, List.getElem?_eq_getElem hk]; rfl
 obtain ⟨pa, pc, rfl, _⟩ := ints_slice hp
 rw [he]
 exact ⟨g, off, pa, pc, rfl, later c0, later c1, later c2, later c3, fun w' h => hp.below h.below⟩
theorem isK_no {t : List Ty} {k kind : Int} (h : k < 0) : isK t k kind = false := by unfold isK; rw [decide_eq_false (by omega)]; rfl
theorem isK_nat (t : List Ty) (k : Nat) (kind : Int) : isK t (k : Int) kind = decide ((tyN t k).kind = kind) := by unfold isK; rw [decide_eq_true (by omega)]; rfl
end Go.Proofs.YtpejpnffcepdlaaGreatDoor.SwA
namespace Go.Proofs.YtpejpnffcepdlaaGreatDoor.SyK
open TyM ShM ShP ShE ShH ShI ShN ShJ ShK ShL ShBP FwM FwC FwP FwQ FdM FdQ FeP FxL LvM LvQ LuM SoM SvQ SvP

theorem kindN_zero {p : Px} {f r : Int} (h : kindE p f r ≠ 0) : kindN p f r = 0 := by unfold kindN; rw [if_neg h]
theorem kindN_type {p : Px} {f r : Int} (h : kindE p f r = 0) : kindN p f r = typeI p.types (fnP p f) r := by unfold kindN; rw [if_pos h]
theorem kind_snd {p : Px} {f r : Int} (h : kindE p f r = 0) : sndE p = 0 := by
 unfold kindE at h
 by_cases h1 : sndE p = 0
 ·exact h1
 ·rw [if_pos h1] at h; exact h
theorem kind_place {p : Px} {f r : Int} (h : kindE p f r = 0) : placeE p f r = 0 := by
 have h1 := kind_snd h
 unfold kindE at h
 rw [if_neg (fun e => e h1)] at h
 by_cases h2 : placeE p f r = 0
 ·exact h2
 ·rw [if_pos h2] at h; exact absurd h h2
theorem place_find {p : Px} {f r : Int} (h : placeE p f r = 0) : findP p f = 0 ∧ 0 ≤ r ∧ r < cntP p f := by
 unfold placeE at h
 by_cases h1 : findP p f = 0
 ·rw [if_neg (fun e => e h1)] at h
  by_cases h2 : 0 ≤ r ∧ r < cntP p f
  ·exact ⟨h1, h2⟩
  ·rw [if_neg h2] at h; omega
 ·rw [if_pos h1] at h; exact absurd h h1
theorem snd_two {p : Px} (h : chkP p = 0) : sndE p = 0 ∨ sndE p = 120 := by
 unfold sndE
 rw [if_neg (fun e => e h)]
 split <;> omega
/-- where a place is right, an error 0 or 6 is of a program that is well formed -/
theorem kind_right {p : Px} {f r : Int} (hp : placeE p f r = 0) (h : kindE p f r = 0 ∨ kindE p f r = 6) : sndE p = 0 := by
 rcases snd_two (find_zero (place_find hp).1).1 with h1 | h1
 ·exact h1
 ·unfold kindE at h
  rw [if_pos (by omega), h1] at h
  omega
theorem kind_is {p : Px} {f r : Int} (hs : sndE p = 0) (hp : placeE p f r = 0) : kindE p f r = if typeI p.types (fnP p f) r < 0 then 6 else 0 := by
 unfold kindE
 rw [if_neg (fun e => e hs), if_neg (fun e => e hp)]
theorem isT_of {t : List Ty} {k : Int} (hc : chkT t = 0) (h : plainB t k = true) : askT t k = 0 ∧ isT t k = true ∧ 0 ≤ k := by
 obtain ⟨h0, x, hx, hk⟩ := plainB_iff.1 h
 have hl : k.toNat < t.length := (List.getElem?_eq_some_iff.1 hx).1
 have ha : askT t k = 0 := by unfold askT; rw [if_pos hc, if_pos ⟨h0, by omega⟩]
 refine ⟨ha, ?_, h0⟩
 unfold isT tyAt
 rw [if_pos ha, hx]
 exact hk
/-- A REGISTER'S TYPE, of a program that is well formed -/
theorem reg_kind {p : Px} {f r : Int} (ho : POk p) (hs : sndE p = 0) (hp : placeE p f r = 0) : ∃ k x, Has1 p f k x ∧ fnP p f = x ∧
  ((placeB p f r = -1 ∧ plainB p.types (typeI p.types x r) = true) ∨
   ∃ c q y, placeB p f r = ((c : Nat) : Int) ∧ placeI p f r = ((q : Nat) : Int) ∧ c < x.blocks.length ∧ (insAt x.blocks c)[q]? = some y ∧ (0 ≤ y.op ∧ y.op ≤ 255) ∧
    (answersB y.op = true → plainB p.types (typeI p.types x r) = true) ∧ (answersB y.op = false → typeI p.types x r = -1)) := by
 obtain ⟨hf, r0, r1⟩ := place_find hp
 obtain ⟨k, x, h1⟩ := has1 hf
 have hx := fn_eq h1
 obtain ⟨hc, hfn, _⟩ := snd_zero hs
 obtain ⟨hct, _, _, hmf⟩ := chk_zero hc
 have hmem : x ∈ p.funcs := List.mem_of_getElem? h1.at_
 have hm := may_zero (hmf _ hmem)
 have hsig : isK p.types x.sig 3 = true := by
  unfold isK
  simp only [Bool.and_eq_true, decide_eq_true_eq]
  exact ⟨hm.1.1, hm.2.1⟩
 rw [cnt_at h1] at r1
 refine ⟨k, x, h1, hx, ?_⟩
 by_cases hr : r < parOf p.types x.sig
 ·refine .inl ⟨?_, ?_⟩
  ·unfold placeB
   rw [if_neg (fun e => e hp), hx, if_pos hr]
  ·unfold typeI
   rw [if_pos hr]
   have hlt : r.toNat < (tyN p.types x.sig).parts.length := by
    have : parOf p.types x.sig = (tyN p.types x.sig).parts.length := rfl
    omega
   rw [List.getElem?_eq_getElem hlt]
   exact (fn_plain hct hsig).2 _ (List.getElem_mem hlt)
 ·obtain ⟨c, q, hcl, hl, hmq, hq⟩ := locate_spec x.blocks (r - parOf p.types x.sig).toNat (by omega)
  have hia : insAt x.blocks c = x.blocks[c].ins := by unfold insAt; rw [List.getElem?_eq_getElem hcl]; rfl
  have hy : (insAt x.blocks c)[q]? = some x.blocks[c].ins[q] := by rw [hia]; exact List.getElem?_eq_getElem hq
  have hio := ins_ok hc ho hmem (List.getElem_mem hcl) (List.getElem_mem hq)
  have hri := right_parts hy (((fn_parts (hfn x hmem)).2 c hcl).1 q (by rw [hia]; exact hq))
  refine .inr ⟨c, q, x.blocks[c].ins[q], ?_, ?_, hcl, hy, ⟨by have := hio.op1; omega, by have := hio.op2; omega⟩, fun ha => ?_, fun ha => ?_⟩
  ·unfold placeB
   rw [if_neg (fun e => e hp), hx, if_neg hr, hl]
  ·unfold placeI
   rw [if_neg (fun e => e hp), hx, if_neg hr, hl]
  ·unfold typeI
   rw [if_neg hr, hl]
   show plainB p.types (if answersB (insOf x.blocks c q).op = true then (insOf x.blocks c q).typ else -1) = true
   rw [insOf_at hy, if_pos ha]
   exact typed_plain hc ha hio.op1 hio.op2 hio.n hri.2.1
  ·unfold typeI
   rw [if_neg hr, hl]
   show (if answersB (insOf x.blocks c q).op = true then (insOf x.blocks c q).typ else -1) = -1
   rw [insOf_at hy, if_neg (by rw [ha]; decide)]
end Go.Proofs.YtpejpnffcepdlaaGreatDoor.SyK
namespace Go.Proofs.YtpejpnffcepdlaaGreatDoor.SyM
open TyM ShM ShP ShE ShH ShI ShN ShJ ShK ShL ShBP FwM FwC FwP FwQ FdM FdQ FeP FxL LvM LvQ LuM SoM SvQ SvP SyK

theorem args_uses {x : Ix} (h : x.op = 22) {r : Int} (hr : r ∈ x.args) : r ∈ usesOf x := by
 unfold usesOf
 rw [h]
 have : argsB 22 = true := by decide
 simp [this, hr]
/-- what lives has a type -/
theorem lives_typed {p : Px} (h : sndE p = 0) (ho : POk p) {f : Fx} (hf : f ∈ p.funcs) {r : Nat} : ∀ {b k : Nat}, Lv f.blocks (ownN (parOf p.types f.sig) f.blocks) r b k → b < f.blocks.length → 0 ≤ typeI p.types f r := by
 have hwf := wf_of h ho hf
 obtain ⟨hc, hall, _⟩ := snd_zero h
 obtain ⟨_, hbb⟩ := fn_parts (hall f hf)
 intro b k hv
 induction hv with
 | @read b k x hx hrd =>
  intro hb
  have hlt := (List.getElem?_eq_some_iff.1 hx).1
  unfold readsI at hrd
  simp only [Bool.and_eq_true, decide_eq_true_eq] at hrd
  exact of_decide_eq_true (List.all_eq_true.1 (right_parts hx ((hbb b hb).1 k hlt)).1 r hrd.2)
 | @next b k hlt hne _ ih => exact ih
 | @ends b he =>
  intro hb
  exact of_decide_eq_true (List.all_eq_true.1 (end_parts (hbb b hb).2).1 r he)
 | @fall b _ ih => exact ih
 | @go b j hj _ ih =>
  intro hb
  exact ih (succ_lt hwf.low b hb j hj)
 | @phi b j hj hp =>
  intro hb
  have hjl := succ_lt hwf.low b hb j hj
  unfold byPhi at hp
  obtain ⟨x, hx, hv⟩ := List.any_eq_true.1 hp
  simp only [Bool.and_eq_true, decide_eq_true_eq] at hv
  obtain ⟨k, hk, he2⟩ := List.getElem_of_mem hx
  have hx2 : (insAt f.blocks j)[k]? = some x := by rw [List.getElem?_eq_getElem hk, he2]
  exact of_decide_eq_true (List.all_eq_true.1 (right_parts hx2 ((hbb j hjl).1 k hk)).1 r (args_uses hv.1 (List.of_mem_zip hv.2).2))
/-- WHAT LIVES IS SET, AND HAS A TYPE -/
theorem live_set {p : Px} {f b pl : Int} (h : sndE p = 0) (ho : POk p) (he : atE p f b pl = 0) {r : Int} (hr : r ∈ liveA p f b pl) : setE p f r b pl = 0 ∧ setA p f r b pl = true ∧ kindE p f r = 0 := by
 obtain ⟨ha, p0, p1⟩ := atE_zero he
 obtain ⟨hf, b0, b1⟩ := ask_zero ha
 obtain ⟨k, x, hx⟩ := has1 hf
 have hfn := fn_eq hx
 have hbl := fn_blocks hx
 have hmem : x ∈ p.funcs := List.mem_of_getElem? hx.at_
 obtain ⟨j, rfl⟩ : ∃ j : Nat, b = j := ⟨b.toNat, by omega⟩
 obtain ⟨m, rfl⟩ : ∃ m : Nat, pl = m := ⟨pl.toNat, by omega⟩
 have hwf := wf_of h ho hmem
 unfold liveA at hr
 rw [if_pos he] at hr
 obtain ⟨n, hn, rfl⟩ := List.mem_map.1 hr
 obtain ⟨hnl, hv⟩ := livesL_mem.1 hn
 have hpar : parP p f = parOf p.types x.sig := by unfold parP; rw [hfn]
 rw [hpar, hbl, Int.toNat_natCast, Int.toNat_natCast] at hv
 rw [hbl] at b1 p1
 have hjl : j < x.blocks.length := by omega
 have hml : m ≤ (insAt x.blocks j).length := by
  rw [insN_at hjl] at p1
  unfold insAt
  rw [List.getElem?_eq_getElem hjl]
  show m ≤ x.blocks[j].ins.length
  omega
 have hlv := (livB_iff hwf.low hjl hml).1 hv
 have hcn := cnt_at hx
 have hpe : placeE p f (n : Int) = 0 := by
  unfold placeE
  rw [if_neg (fun e => e hf), if_pos ⟨by omega, by omega⟩]
 have hrs : j ∈ reachedL x.blocks := all_reached (fn_parts ((snd_zero h).2.1 x hmem)).1 hjl
 have hse : setE p f (n : Int) (j : Int) (m : Int) = 0 := by
  unfold setE
  rw [if_neg (fun e => e hpe), if_neg (fun e => e he)]
  exact askR_in ha (by rw [hbl, Int.toNat_natCast]; exact hrs)
 refine ⟨hse, ?_, ?_⟩
 ·unfold setA
  rw [if_pos hse, hfn, hbl]
  exact (lives_set hwf (by rw [← hcn]; exact hnl) hlv hjl).1 hml
 ·rw [kind_is h hpe, hfn, if_neg]
  have := lives_typed h ho hmem hlv hjl
  omega
/-- a list's length -/
theorem live_len {p : Px} {f b pl : Int} (h : atE p f b pl ≠ 0) : liveA p f b pl = [] := by unfold liveA; rw [if_neg h]
/-- NOTHING LIVES AT FUNCTION 0's BEGINNING -/
theorem first_none {p : Px} (h : sndE p = 0) (ho : POk p) : liveA p 0 0 0 = [] ∧ atE p 0 0 0 = 0 := by
 obtain ⟨hc, hall, hfb⟩ := snd_zero h
 obtain ⟨_, h1, _, hmf⟩ := chk_zero hc
 have hf : findP p 0 = 0 := by
  unfold findP
  rw [if_neg (fun e => e hc), if_pos ⟨by omega, by omega⟩]
 obtain ⟨k, x, hx⟩ := has1 hf
 have hk0 : k = 0 := by have := hx.eq; omega
 subst hk0
 have hfn := fn_eq hx
 have hbl := fn_blocks hx
 have hmem : x ∈ p.funcs := List.mem_of_getElem? hx.at_
 have ha : askB p 0 0 = 0 := by
  unfold askB
  rw [if_neg (fun e => e hf), hbl, if_pos ⟨by omega, by have := hx.blocks1; omega⟩]
 have he : atE p 0 0 0 = 0 := by rw [atE_first]; exact ha
 refine ⟨?_, he⟩
 have hsig : sigAt p 0 = x.sig := by
  unfold sigAt
  rw [show (0 : Int).toNat = 0 from rfl, hx.at_]
  rfl
 have hpar : parOf p.types x.sig = 0 := by
  unfold firstB at hfb
  simp only [Bool.and_eq_true, decide_eq_true_eq] at hfb
  rw [hsig] at hfb
  exact hfb.1
 have hwf := wf_of h ho hmem
 have hpos : 0 < x.blocks.length := by have := hx.blocks1; omega
 rw [hpar] at hwf
 unfold liveA
 rw [if_pos he]
 have : livesL (parP p 0) (cntP p 0) (blsP p 0) (0 : Int).toNat (0 : Int).toNat = [] := by
  refine List.eq_nil_iff_forall_not_mem.2 fun n hn => ?_
  obtain ⟨hnl, hv⟩ := livesL_mem.1 hn
  have hpp : parP p 0 = 0 := by unfold parP; rw [hfn]; exact hpar
  rw [hpp, hbl] at hv
  have hcn := cnt_at hx
  exact lives_none hwf (by omega) ((livB_iff hwf.low hpos (Nat.zero_le _)).1 hv)
 rw [this]
 rfl
/-- a function and a block that there are -/
theorem ask_has {p : Px} {f b : Int} (ha : askB p f b = 0) : ∃ k x j, Has1 p f k x ∧ b = ((j : Nat) : Int) ∧ j < x.blocks.length ∧ blsP p f = x.blocks ∧ x ∈ p.funcs := by
 obtain ⟨hf, b0, b1⟩ := ask_zero ha
 obtain ⟨k, x, hx⟩ := has1 hf
 have hbl := fn_blocks hx
 rw [hbl] at b1
 exact ⟨k, x, b.toNat, hx, by omega, by omega, hbl, List.mem_of_getElem? hx.at_⟩
end Go.Proofs.YtpejpnffcepdlaaGreatDoor.SyM
namespace Go.Proofs.YtpejpnffcepdlaaGreatDoor.SyP
open Go.RowKit Go.Lib SetP IntO TyM TyP TyB ShM ShP ShB ShI PgB 

/-- the program that fescue/fescuelaw12.chapter writes out -/
def chapP (op t a b n : Int) : Px := ⟨[⟨1, 0, 0, []⟩, ⟨3, 0, 0, []⟩], [⟨1, [⟨[⟨1, 0, 0, 0, 5, [], []⟩], ⟨1, 0, 1, 0⟩⟩, ⟨[⟨op, t, a, b, n, [], []⟩], ⟨3, 1, 0, 0⟩⟩]⟩]⟩
def chapW (op t a b n : Int) (w : World) : World := (((((((((w.alloc (.cells #[.int .u8 op, .int .i64 t, .int .i64 a, .int .i64 b, .int .i64 n, .slice none 0 0, .slice none 0 0] 31)).alloc (.cells #[.slice (some ⟨w.heap.size + 1 + 1 + 1 + 1 + 1 + 1, 0, none⟩) 2 2, .slice (some ⟨w.heap.size + 1 + 1 + 1 + 1 + 1 + 1 + 1 + 1, 0, none⟩) 1 1] 27)).alloc (.cells #[.int .u8 1, .int .i64 0, .int .i64 0, .int .i64 0, .int .i64 5, .slice none 0 0, .slice none 0 0] 31)).alloc (.cells #[.slice (some ⟨w.heap.size + 1 + 1, 0, none⟩) 1 1, .int .u8 1, .int .i64 0, .int .i64 1, .int .i64 0] 38)).alloc (.cells #[.int .u8 op, .int .i64 t, .int .i64 a, .int .i64 b, .int .i64 n, .slice none 0 0, .slice none 0 0] 31)).alloc (.cells #[.slice (some ⟨w.heap.size + 1 + 1 + 1 + 1, 0, none⟩) 1 1, .int .u8 3, .int .i64 1, .int .i64 0, .int .i64 0] 38)).alloc (.cells #[.int .u8 1, .int .i64 0, .int .i64 0, .slice none 0 0, .int .u8 3, .int .i64 0, .int .i64 0, .slice none 0 0] 43)).alloc (.cells #[.slice (some ⟨w.heap.size + 1 + 1, 0, none⟩) 1 1, .int .u8 1, .int .i64 0, .int .i64 1, .int .i64 0, .slice (some ⟨w.heap.size + 1 + 1 + 1 + 1, 0, none⟩) 1 1, .int .u8 3, .int .i64 1, .int .i64 0, .int .i64 0] 38)).alloc (.cells #[.int .i64 1, .slice (some ⟨w.heap.size + 1 + 1 + 1 + 1 + 1 + 1 + 1, 0, none⟩) 2 2] 41))
theorem chap_h2 (op t a b n : Int) (w : World) : (chapW op t a b n w).heap[w.heap.size + 1 + 1]? = some (.cells #[.int .u8 1, .int .i64 0, .int .i64 0, .int .i64 0, .int .i64 5, .slice none 0 0, .slice none 0 0] 31 (0, 0)) := alloc_old (alloc_old (alloc_old (alloc_old (alloc_old (alloc_old (alloc_newn _ _ _ (by simp only [World.size_alloc])) _) _) _) _) _) _
theorem chap_h4 (op t a b n : Int) (w : World) : (chapW op t a b n w).heap[w.heap.size + 1 + 1 + 1 + 1]? = some (.cells #[.int .u8 op, .int .i64 t, .int .i64 a, .int .i64 b, .int .i64 n, .slice none 0 0, .slice none 0 0] 31 (0, 0)) := alloc_old (alloc_old (alloc_old (alloc_old (alloc_newn _ _ _ (by simp only [World.size_alloc])) _) _) _) _
theorem chap_h6 (op t a b n : Int) (w : World) : (chapW op t a b n w).heap[w.heap.size + 1 + 1 + 1 + 1 + 1 + 1]? = some (.cells #[.int .u8 1, .int .i64 0, .int .i64 0, .slice none 0 0, .int .u8 3, .int .i64 0, .int .i64 0, .slice none 0 0] 43 (0, 0)) := alloc_old (alloc_old (alloc_newn _ _ _ (by simp only [World.size_alloc])) _) _
theorem chap_h7 (op t a b n : Int) (w : World) : (chapW op t a b n w).heap[w.heap.size + 1 + 1 + 1 + 1 + 1 + 1 + 1]? = some (.cells #[.slice (some ⟨w.heap.size + 1 + 1, 0, none⟩) 1 1, .int .u8 1, .int .i64 0, .int .i64 1, .int .i64 0, .slice (some ⟨w.heap.size + 1 + 1 + 1 + 1, 0, none⟩) 1 1, .int .u8 3, .int .i64 1, .int .i64 0, .int .i64 0] 38 (0, 0)) := alloc_old (alloc_newn _ _ _ (by simp only [World.size_alloc])) _
theorem chap_h8 (op t a b n : Int) (w : World) : (chapW op t a b n w).heap[w.heap.size + 1 + 1 + 1 + 1 + 1 + 1 + 1 + 1]? = some (.cells #[.int .i64 1, .slice (some ⟨w.heap.size + 1 + 1 + 1 + 1 + 1 + 1 + 1, 0, none⟩) 2 2] 41 (0, 0)) := alloc_newn _ _ _ (by simp only [World.size_alloc])
theorem chap_below (op t a b n : Int) (w : World) : Below w.heap.size w (chapW op t a b n w) := by
 unfold chapW
 repeat' (first | exact alloc_below _ _ | refine Below.alloc ?_ (by simp only [World.size_alloc]; omega) _)
set_option maxRecDepth 100000 in
theorem chap_at {op t a b n : Int} {W : World} {b2 b4 b6 b7 b8 : Nat} (k2 : W.heap[b2]? = some (.cells #[.int .u8 1, .int .i64 0, .int .i64 0, .int .i64 0, .int .i64 5, .slice none 0 0, .slice none 0 0] 31 (0, 0))) (k4 : W.heap[b4]? = some (.cells #[.int .u8 op, .int .i64 t, .int .i64 a, .int .i64 b, .int .i64 n, .slice none 0 0, .slice none 0 0] 31 (0, 0))) (k6 : W.heap[b6]? = some (.cells #[.int .u8 1, .int .i64 0, .int .i64 0, .slice none 0 0, .int .u8 3, .int .i64 0, .int .i64 0, .slice none 0 0] 43 (0, 0))) (k7 : W.heap[b7]? = some (.cells #[.slice (some ⟨b2, 0, none⟩) 1 1, .int .u8 1, .int .i64 0, .int .i64 1, .int .i64 0, .slice (some ⟨b4, 0, none⟩) 1 1, .int .u8 3, .int .i64 1, .int .i64 0, .int .i64 0] 38 (0, 0))) (k8 : W.heap[b8]? = some (.cells #[.int .i64 1, .slice (some ⟨b7, 0, none⟩) 2 2] 41 (0, 0))) : PrAt W (.agg #[.slice (some ⟨b6, 0, none⟩) 2 2, .slice (some ⟨b8, 0, none⟩) 1 1]) (chapP op t a b n) := by
 have i0 : InsAt W (.slice (some ⟨b2, 0, none⟩) 1 1) [⟨1, 0, 0, 0, 5, [], []⟩] := row_block (lt_of k2) rfl (by simp) fun i h => by
  obtain rfl : i = 0 := by have : i < 1 := h; omega
  exact ⟨_, _, cells_of k2 0 _ rfl, cells_of k2 1 _ rfl, cells_of k2 2 _ rfl, cells_of k2 3 _ rfl, cells_of k2 4 _ rfl, cells_of k2 5 _ rfl, cells_of k2 6 _ rfl, ints_none W, ints_none W⟩
 have i1 : InsAt W (.slice (some ⟨b4, 0, none⟩) 1 1) [⟨op, t, a, b, n, [], []⟩] := row_block (lt_of k4) rfl (by simp) fun i h => by
  obtain rfl : i = 0 := by have : i < 1 := h; omega
  exact ⟨_, _, cells_of k4 0 _ rfl, cells_of k4 1 _ rfl, cells_of k4 2 _ rfl, cells_of k4 3 _ rfl, cells_of k4 4 _ rfl, cells_of k4 5 _ rfl, cells_of k4 6 _ rfl, ints_none W, ints_none W⟩
 have i2 : BlksAt W (.slice (some ⟨b7, 0, none⟩) 2 2) _ := row_block (l := [⟨[⟨1, 0, 0, 0, 5, [], []⟩], ⟨1, 0, 1, 0⟩⟩, ⟨[⟨op, t, a, b, n, [], []⟩], ⟨3, 1, 0, 0⟩⟩]) (lt_of k7) rfl (by simp) fun i h => by
  have hi : i = 0 ∨ i = 1 := by have : i < 2 := h; omega
  rcases hi with rfl | rfl
  ·exact ⟨_, cells_of k7 0 _ rfl, cells_of k7 1 _ rfl, cells_of k7 2 _ rfl, cells_of k7 3 _ rfl, cells_of k7 4 _ rfl, i0⟩
  ·exact ⟨_, cells_of k7 5 _ rfl, cells_of k7 6 _ rfl, cells_of k7 7 _ rfl, cells_of k7 8 _ rfl, cells_of k7 9 _ rfl, i1⟩
 refine ⟨_, _, rfl, ?_, ?_⟩
 ·refine tys_blk (l := (chapP op t a b n).types) (lt_of k6) rfl (by simp [chapP]) fun i h => ?_
  have hi : i = 0 ∨ i = 1 := by have : i < 2 := h; omega
  rcases hi with rfl | rfl
  ·exact ⟨_, cells_of k6 0 _ rfl, cells_of k6 1 _ rfl, cells_of k6 2 _ rfl, cells_of k6 3 _ rfl, ints_none W⟩
  ·exact ⟨_, cells_of k6 4 _ rfl, cells_of k6 5 _ rfl, cells_of k6 6 _ rfl, cells_of k6 7 _ rfl, ints_none W⟩
 ·refine row_block (l := (chapP op t a b n).funcs) (lt_of k8) rfl (by simp [chapP]) fun i h => ?_
  obtain rfl : i = 0 := by have : i < 1 := h; omega
  exact ⟨_, cells_of k8 0 _ rfl, cells_of k8 1 _ rfl, i2⟩
theorem chap_prog (op t a b n : Int) (w W : World) (hW : Below (chapW op t a b n w).heap.size (chapW op t a b n w) W) : PrAt W (.agg #[.slice (some ⟨w.heap.size + 1 + 1 + 1 + 1 + 1 + 1, 0, none⟩) 2 2, .slice (some ⟨w.heap.size + 1 + 1 + 1 + 1 + 1 + 1 + 1 + 1, 0, none⟩) 1 1]) (chapP op t a b n) :=
 chap_at (keepBlk hW (chap_h2 op t a b n w)) (keepBlk hW (chap_h4 op t a b n w)) (keepBlk hW (chap_h6 op t a b n w)) (keepBlk hW (chap_h7 op t a b n w)) (keepBlk hW (chap_h8 op t a b n w))
set_option maxRecDepth 100000 in
set_option maxHeartbeats 8000000 in
theorem chap_world (op t a b n : Int) (w : World) : Calls Tryz.prog 9 #[.agg #[.int .u8 op, .int .i64 t, .int .i64 a, .int .i64 b, .int .i64 n, .slice none 0 0, .slice none 0 0]] w fun e w' => e = .returned (.agg #[.slice (some ⟨w.heap.size + 1 + 1 + 1 + 1 + 1 + 1, 0, none⟩) 2 2, .slice (some ⟨w.heap.size + 1 + 1 + 1 + 1 + 1 + 1 + 1 + 1, 0, none⟩) 1 1]) ∧ w' = chapW op t a b n w := by
 go_enter Tryz.func9, Tryz.ntmps9
 go_wp2
 go_returns
 exact ⟨rfl, rfl⟩
theorem chap_calls (op t a b n : Int) (w : World) : Calls Tryz.prog 9 #[.agg #[.int .u8 op, .int .i64 t, .int .i64 a, .int .i64 b, .int .i64 n, .slice none 0 0, .slice none 0 0]] w (ProgR (chapP op t a b n) w) :=
 (chap_world op t a b n w).mono fun e w' ⟨h1, h2⟩ => ⟨_, h1, by rw [h2]; exact chap_prog op t a b n w _ (Below.refl _ _), by rw [h2]; exact chap_below op t a b n w⟩
end Go.Proofs.YtpejpnffcepdlaaGreatDoor.SyP
namespace Go.Proofs.YtpejpnffcepdlaaGreatDoor.SyA
open Go.RowKit Go.Lib SetP IntO TyM TyP TyB ShM ShP ShA ShB ShI PgB Aft FwQ FwR FwK FdQ SvQ SvK SyP

theorem one_small : Small (chapP 4 0 0 0 0) := ⟨by decide, by decide, by decide, by decide, by decide, by decide⟩
theorem one_ok : POk (chapP 4 0 0 0 0) := by unfold POk; decide
theorem two_small : Small (chapP 4 0 1 1 0) := ⟨by decide, by decide, by decide, by decide, by decide, by decide⟩
theorem two_ok : POk (chapP 4 0 1 1 0) := by unfold POk; decide
theorem f1 : sndE (chapP 4 0 0 0 0) = 0 := by decide +kernel
theorem f2 : sndE (chapP 4 0 1 1 0) = 120 := by decide +kernel

set_option maxRecDepth 100000 in
set_option maxHeartbeats 8000000 in
theorem alive_of (CC : CheckC) (W : World) (ht : Tab W) : Calls Tryz.prog 11 #[] W (BoolR true W) := by
 have H1 := hid (fun v wx (h : Aft W wx) (hp : PrAt wx v (chapP 4 0 0 0 0)) => CC _ v wx hp (ht.on h.below) one_small one_ok)
 have H2 := hid (fun v wx (h : Aft W wx) (hp : PrAt wx v (chapP 4 0 1 1 0)) => CC _ v wx hp (ht.on h.below) two_small two_ok)
 have P1 := hid (fun wx => chap_calls 4 0 0 0 0 wx)
 have P2 := hid (fun wx => chap_calls 4 0 1 1 0 wx)
 rw [f1] at H1
 rw [f2] at H2
 have h0 := Aft.refl W
 clear ht
 generalize chapP 4 0 0 0 0 = p1 at *
 generalize chapP 4 0 1 1 0 = p2 at *
 go_enter Tryz.func11, Tryz.ntmps11
 go_wp2_with fail
 refine (P1.out _).mono ?_
 rintro e w1 ⟨v1, rfl, hp1, hb1⟩
 have h1 := h0.go hb1
 have C1 := hid (H1.out _ _ h1 hp1)
 obtain ⟨_, _, rfl, _⟩ := hp1
 clear hb1 h0 P1 H1
 go_wp2_with fail
 refine C1.out.mono ?_
 rintro e w2 ⟨rfl, hb2⟩
 have h2 := h1.go hb2
 clear hb2 h1 C1
 go_wp2_with fail
 refine (P2.out _).mono ?_
 rintro e w3 ⟨v2, rfl, hp2, hb3⟩
 have h3 := h2.go hb3
 have C2 := hid (H2.out _ _ h3 hp2)
 obtain ⟨_, _, rfl, _⟩ := hp2
 clear hb3 h2 P2 H2
 go_wp2_with fail
 refine C2.out.mono ?_
 rintro e w4 ⟨rfl, hb4⟩
 have HE := hid (h3.go hb4).below
 clear hb4 h3 C2
 go_wp2
 go_ret
 exact ⟨rfl, HE.out⟩
end Go.Proofs.YtpejpnffcepdlaaGreatDoor.SyA
namespace Go.Proofs.YtpejpnffcepdlaaGreatDoor.SzM
open TyM ShM ShP ShE ShH ShI ShN ShJ ShK ShL ShBP FwM FwC FwP FwQ FdM FdQ FeP FxL LvM LvQ LuM SoM SvQ SvP

/-- the type of what an instruction answers; -1: none -/
def tyIx (x : Ix) : Int := if answersB x.op = true then x.typ else -1
def tyBx (b : Bx) : List Int := b.ins.map tyIx
/-- the types of a function's registers -/
def regL (t : List Ty) (x : Fx) : List Int := (tyN t x.sig).parts ++ x.blocks.flatMap tyBx
theorem flat_len : ∀ l : List Bx, (l.flatMap tyBx).length = manyB l
 | [] => rfl
 | b :: l => by rw [List.flatMap_cons, List.length_append, flat_len l, manyB_cons]; unfold tyBx; rw [List.length_map]
theorem flat_at : ∀ (l : List Bx) (j i : Nat) (h : j < l.length) (hi : i < l[j].ins.length), (l.flatMap tyBx)[manyB (l.take j) + i]? = some (tyIx (l[j].ins[i]))
 | [], j, i, h, hi => absurd h (by simp)
 | b :: l, 0, i, h, hi => by
  have hi2 : i < b.ins.length := hi
  rw [List.flatMap_cons, List.take_zero, manyB_nil, Nat.zero_add, List.getElem?_append_left (by unfold tyBx; rw [List.length_map]; exact hi2)]
  unfold tyBx
  rw [List.getElem?_map, List.getElem?_eq_getElem hi2]
  rfl
 | b :: l, j + 1, i, h, hi => by
  have h2 : j < l.length := by simpa using h
  have ih := flat_at l j i h2 hi
  have hb : (tyBx b).length = b.ins.length := by unfold tyBx; rw [List.length_map]
  rw [List.flatMap_cons, List.take_succ_cons, manyB_cons, List.getElem?_append_right (by omega), hb, show b.ins.length + manyB (l.take j) + i - b.ins.length = manyB (l.take j) + i by omega, ih]
  rfl
theorem regL_len (t : List Ty) (x : Fx) : (regL t x).length = parOf t x.sig + manyB x.blocks := by
 unfold regL
 rw [List.length_append, flat_len]
 rfl
theorem regL_at {t : List Ty} {x : Fx} {r : Nat} (hr : r < parOf t x.sig + manyB x.blocks) : (regL t x)[r]? = some (typeI t x r) := by
 have hp : (tyN t x.sig).parts.length = parOf t x.sig := rfl
 by_cases h : r < parOf t x.sig
 ·unfold regL typeI
  rw [List.getElem?_append_left (by omega), if_pos (by omega), Int.toNat_natCast, List.getElem?_eq_getElem (by omega)]
  rfl
 ·rcases set_loc hr with h2 | ⟨c, q, hc, hq, he, hl⟩
  ·exact absurd h2 h
  have hi : insAt x.blocks c = x.blocks[c].ins := by unfold insAt; rw [List.getElem?_eq_getElem hc]; rfl
  have hq2 : q < x.blocks[c].ins.length := by rw [← hi]; exact hq
  unfold typeI
  rw [if_neg (by omega), hl]
  unfold regL
  rw [List.getElem?_append_right (by omega), hp, show r - parOf t x.sig = manyB (x.blocks.take c) + q by omega, flat_at x.blocks c q hc hq2]
  have e : insOf x.blocks c q = x.blocks[c].ins[q] := by unfold insOf; rw [hi, List.getElem?_eq_getElem hq2]; rfl
  show some (tyIx _) = some (if answersB (insOf x.blocks c q).op = true then (insOf x.blocks c q).typ else -1)
  rw [e]
  rfl
/-- a function's type is a function's -/
theorem sig_ok {p : Px} (hc : chkP p = 0) {f : Fx} (hf : f ∈ p.funcs) : isK p.types f.sig 3 = true := by
 obtain ⟨hct, _, _, hmf⟩ := chk_zero hc
 have hm := may_zero (hmf f hf)
 unfold isK
 simp only [Bool.and_eq_true, decide_eq_true_eq]
 exact ⟨hm.1.1, hm.2.1⟩
/-- a field's number -/
theorem ins_field {p : Px} {f : Fx} (h : chkP p = 0) (ho : POk p) (hf : f ∈ p.funcs) {b : Bx} (hb : b ∈ f.blocks) {x : Ix} (hx : x ∈ b.ins) (he : x.op = 14) : 0 ≤ x.n ∧ x.n < 8 := by
 have hm := (chk_zero h).2.2.2 f hf
 unfold mayF at hm
 split at hm
 ·cases hm
 split at hm
 ·cases hm
 split at hm
 ·cases hm
 have hbb := List.all_eq_true.1 hm b hb
 unfold mayBl at hbb
 simp only [Bool.and_eq_true] at hbb
 have h2 := List.all_eq_true.1 hbb.2 x hx
 rw [mayI_eq ((ho f hf b hb).2 x hx).1] at h2
 unfold mayIR at h2
 split at h2
 ·cases h2
 rename_i h1
 have hn : mayNR p.funcs.length x = true := by
  cases e : mayNR p.funcs.length x with
  | true => rfl
  | false => exact absurd (.inr (.inr (.inr e))) h1
 unfold mayNR at hn
 rw [if_neg (by omega), if_neg (by omega), if_pos he] at hn
 exact of_decide_eq_true hn
/-- a register's type is a type, or below 0: -1 -/
theorem type_neg {p : Px} {f : Fx} (hc : chkP p = 0) (ho : POk p) (hf : f ∈ p.funcs) {r : Nat} (hr : r < parOf p.types f.sig + manyB f.blocks) : typeI p.types f r = -1 ∨ (0 ≤ typeI p.types f r ∧ typeI p.types f r < p.types.length) := by
 have hsig : isK p.types f.sig 3 = true := by
  obtain ⟨hct, _, _, hmf⟩ := chk_zero hc
  have hm := may_zero (hmf f hf)
  unfold isK
  simp only [Bool.and_eq_true, decide_eq_true_eq]
  exact ⟨hm.1.1, hm.2.1⟩
 by_cases h : r < parOf p.types f.sig
 ·have hpl := (fn_plain (chk_zero hc).1 hsig).2
  have hp : (tyN p.types f.sig).parts.length = parOf p.types f.sig := rfl
  unfold typeI
  rw [if_pos (by omega), Int.toNat_natCast, List.getElem?_eq_getElem (by omega)]
  obtain ⟨h0, y, hy, _⟩ := plainB_iff.1 (hpl _ (List.getElem_mem (show r < (tyN p.types f.sig).parts.length by omega)))
  have := (List.getElem?_eq_some_iff.1 hy).1
  refine .inr ⟨h0, ?_⟩
  show (tyN p.types f.sig).parts[r] < _
  omega
 ·rcases set_loc hr with h2 | ⟨c, q, hcl, hq, he, hl⟩
  ·exact absurd h2 h
  unfold typeI
  rw [if_neg (by omega), hl]
  show (if answersB (insOf f.blocks c q).op = true then (insOf f.blocks c q).typ else -1) = -1 ∨ _
  have hx : (insAt f.blocks c)[q]? = some (insOf f.blocks c q) := by unfold insOf; rw [List.getElem?_eq_getElem hq]; rfl
  obtain ⟨b, hb, hxm⟩ := insAt_mem hx hcl
  have hk := ins_ok hc ho hf hb hxm
  by_cases ha : answersB (insOf f.blocks c q).op = true
  ·rw [if_pos ha]
   exact .inr (hk.typ ha)
  ·rw [if_neg ha]
   exact .inl rfl

/-! what is set, from ruler to ruler -/
/-- the register of a block's first instruction -/
def firstB' (par : Nat) (l : List Bx) (k : Nat) : Nat := par + manyB (l.take k)
def firstL (par : Nat) (l : List Bx) (n : Nat) : List Int := (List.range n).map fun k => ((firstB' par l k : Nat) : Int)
theorem firstL_len (par : Nat) (l : List Bx) (n : Nat) : (firstL par l n).length = n := by unfold firstL; rw [List.length_map, List.length_range]
theorem firstL_at {par : Nat} {l : List Bx} {n k : Nat} (h : k < n) : (firstL par l n)[k]? = some ((firstB' par l k : Nat) : Int) := by
 unfold firstL
 rw [List.getElem?_map, List.getElem?_range h]
 rfl
theorem firstL_next (par : Nat) (l : List Bx) (n : Nat) : firstL par l (n + 1) = firstL par l n ++ [((firstB' par l n : Nat) : Int)] := by
 unfold firstL
 rw [List.range_succ, List.map_append]
 rfl
theorem first_next {par : Nat} {l : List Bx} {k : Nat} (h : k < l.length) : firstB' par l (k + 1) = firstB' par l k + (insAt l k).length := by
 unfold firstB' insAt
 rw [manyB_take h, List.getElem?_eq_getElem h]
 show par + (manyB (l.take k) + l[k].ins.length) = par + manyB (l.take k) + l[k].ins.length
 omega
theorem first_zero (par : Nat) (l : List Bx) : firstB' par l 0 = par := by unfold firstB'; rw [List.take_zero, manyB_nil, Nat.add_zero]
theorem first_mono {par : Nat} {l : List Bx} {j k : Nat} (h : j ≤ k) : firstB' par l j ≤ firstB' par l k := by
 unfold firstB'
 have e : l.take j = (l.take k).take j := by rw [List.take_take, Nat.min_eq_left h]
 rw [e]
 have := manyB_le (l.take k) j
 omega
theorem first_le {par : Nat} {l : List Bx} {k : Nat} : firstB' par l k ≤ par + manyB l := by
 unfold firstB'
 have := manyB_le l k
 omega
/-- the block of a register that is no parameter -/
def blkOf (par : Nat) (l : List Bx) (r : Nat) : Nat := (locate l ((r : Int) - par).toNat).1
theorem blk_in {par : Nat} {l : List Bx} {r : Nat} (hr : r < par + manyB l) (hp : ¬ r < par) : blkOf par l r < l.length ∧ firstB' par l (blkOf par l r) ≤ r ∧ r < firstB' par l (blkOf par l r + 1) := by
 rcases set_loc hr with h2 | ⟨c, q, hc, hq, he, hl⟩
 ·exact absurd h2 hp
 have e : blkOf par l r = c := by unfold blkOf; rw [hl]
 rw [e, first_next hc]
 refine ⟨hc, ?_, ?_⟩
 ·unfold firstB'; omega
 ·unfold firstB'; omega
theorem blk_of {par : Nat} {l : List Bx} {r k : Nat} (hr : r < par + manyB l) (h1 : firstB' par l k ≤ r) (h2 : r < firstB' par l (k + 1)) : blkOf par l r = k := by
 have hp : ¬ r < par := by unfold firstB' at h1; omega
 obtain ⟨b1, b2, b3⟩ := blk_in hr hp
 refine Classical.byContradiction fun hne => ?_
 rcases Nat.lt_or_gt_of_ne hne with h | h
 ·have := first_mono (par := par) (l := l) (show blkOf par l r + 1 ≤ k by omega)
  omega
 ·have := first_mono (par := par) (l := l) (show k + 1 ≤ blkOf par l r by omega)
  omega
/-- is a register of a block that rules the block k, or of k itself? -/
def upB (par : Nat) (l : List Bx) (r : Nat) (k : Int) : Bool := decide (0 ≤ k) && ruledL l (blkOf par l r) k.toNat
theorem up_none {par : Nat} {l : List Bx} {r : Nat} {k : Int} (h : k < 0) : upB par l r k = false := by unfold upB; rw [decide_eq_false (by omega)]; rfl
theorem up_nat (par : Nat) (l : List Bx) (r k : Nat) : upB par l r (k : Int) = ruledL l (blkOf par l r) k := by unfold upB; rw [decide_eq_true (by omega), Bool.true_and, Int.toNat_natCast]
section
variable {par : Nat} {l : List Bx} (hl : Low l) (h0 : 0 < l.length) (hall : ∀ b, b < l.length → FwM.Comes (succ l) 0 b)
include hl h0 hall
theorem up_in {r k : Nat} (hr : r < par + manyB l) (hk : k < l.length) (h1 : firstB' par l k ≤ r) (h2 : r < firstB' par l (k + 1)) : upB par l r (k : Int) = true := by
 rw [up_nat, blk_of hr h1 h2]
 exact (ruled_iff hl h0 (hall k hk)).2 (rules_self (hall k hk))
theorem up_step {c k : Nat} (hk : k < l.length) (hne : c ≠ k) : ruledL l c k = (decide (0 ≤ rulerL l k) && ruledL l c (rulerL l k).toNat) := by
 by_cases hz : k = 0
 ·subst hz
  rw [ruler_zero hl h0]
  cases e : ruledL l c 0 with
  | false => rfl
  | true => exact absurd (rules_first ((ruled_iff hl h0 .here).1 e)) hne
 ·obtain ⟨a, ha, hn⟩ := ruler_some hl h0 (hall k hk) hz
  rw [ha, decide_eq_true (by omega), Bool.true_and, Int.toNat_natCast]
  have h1 := ruled_iff hl h0 (a := c) (hall k hk)
  have h2 := ruled_iff hl h0 (a := c) hn.2.1.reach
  have h3 := rules_next (x := c) hn
  rw [Bool.eq_iff_iff, h1, h2, h3]
  exact ⟨fun h => h.resolve_left hne, .inr⟩
theorem up_next {r k : Nat} (hr : r < par + manyB l) (hp : ¬ r < par) (hk : k < l.length) (hno : ¬ (firstB' par l k ≤ r ∧ r < firstB' par l (k + 1))) : upB par l r (k : Int) = upB par l r (rulerL l k) := by
 obtain ⟨b1, b2, b3⟩ := blk_in hr hp
 rw [up_nat]
 exact up_step hl h0 hall hk fun e => hno (by rw [← e]; exact ⟨b2, b3⟩)
theorem ruler_lt {k : Nat} (hk : k < l.length) : rulerL l k = -1 ∨ ∃ a : Nat, rulerL l k = a ∧ a < l.length ∧ rulersN l a < rulersN l k := by
 by_cases hz : k = 0
 ·subst hz; exact .inl (ruler_zero hl h0)
 ·obtain ⟨a, ha, hn⟩ := ruler_some hl h0 (hall k hk) hz
  exact .inr ⟨a, ha, rules_lt (succ_lt hl) h0 hn.2.1, rulers_less hl h0 hn⟩
/-- IS A REGISTER SET AT A PLACE, TOLD FROM RULER TO RULER -/
theorem set_up {r b pl : Nat} (hr : r < par + manyB l) (hp : ¬ r < par) (hb : b < l.length) (hpl : pl ≤ (insAt l b).length) (hno : ¬ (firstB' par l b ≤ r ∧ r < firstB' par l b + pl)) : isSetL par l r b pl = upB par l r (rulerL l b) := by
 rcases set_loc hr with h2 | ⟨c, q, hc, hq, he, hloc⟩
 ·exact absurd h2 hp
 have e : blkOf par l r = c := by unfold blkOf; rw [hloc]
 rw [set_at hp hloc]
 by_cases hcb : c = b
 ·rw [if_pos hcb]
  subst hcb
  have hq2 : ¬ q < pl := by
   intro h
   refine hno ⟨?_, ?_⟩
   ·unfold firstB'; omega
   ·unfold firstB'; omega
  rw [decide_eq_false hq2]
  unfold upB
  rw [e]
  rcases ruler_lt hl h0 hall hc with h | ⟨a, ha, hal, _⟩
  ·rw [h]; rfl
  ·rw [ha, decide_eq_true (by omega), Bool.true_and, Int.toNat_natCast]
   cases hra : ruledL l c a with
   | false => rfl
   | true =>
    have hz : c ≠ 0 := by rintro rfl; rw [ruler_zero hl h0] at ha; omega
    obtain ⟨a', ha', hn⟩ := ruler_some hl h0 (hall c hc) hz
    obtain rfl : a' = a := by omega
    exact absurd (((ruled_iff hl h0 (hall a' hal)).1 hra).anti hn.2.1).symm hn.1
 ·rw [if_neg hcb]
  have := up_step hl h0 hall hb hcb
  rw [this]
  unfold upB
  rw [e]
end
theorem set_own {par : Nat} {l : List Bx} {r b pl : Nat} (hr : r < par + manyB l) (hb : b < l.length) (hpl : pl ≤ (insAt l b).length) (h1 : firstB' par l b ≤ r) (h2 : r < firstB' par l b + pl) : isSetL par l r b pl = true := by
 have hp : ¬ r < par := by unfold firstB' at h1; omega
 rcases set_loc hr with h3 | ⟨c, q, hc, hq, he, hloc⟩
 ·exact absurd h3 hp
 have e : blkOf par l r = c := by unfold blkOf; rw [hloc]
 have e2 := blk_of hr h1 (show r < firstB' par l (b + 1) by rw [first_next hb]; omega)
 have hcb : c = b := by omega
 rw [set_at hp hloc, if_pos hcb]
 subst hcb
 refine decide_eq_true ?_
 unfold firstB' at h2
 omega
end Go.Proofs.YtpejpnffcepdlaaGreatDoor.SzM
