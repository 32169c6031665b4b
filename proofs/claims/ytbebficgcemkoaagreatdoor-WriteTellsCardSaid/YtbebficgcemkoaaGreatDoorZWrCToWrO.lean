/- Plain facts of writing: a program whose shape may be is told whole by its lines. What the writer asks of a program: sizes, numbers; lines one behind the other. A program's own text, or the error. -/
import Derived.Test.YtbebficgcemkoaaGreatDoorZLxKToWrP
import Derived.Test.YtbebficgcemkoaaGreatDoorZShIToShJp
import Derived.Test.YtbebficgcemkoaaGreatDoorZTyMToShN
namespace Go.Proofs.YtbebficgcemkoaaGreatDoor.WrC
open Go.RowKit Go.Lib TyM ShM ShP ShE ShH ShI ShN LxM LxP LxK LxJ LxY RdM RdN RdV NumP WrM WrI WrP

theorem nn_low {m n : Int} (h : 0 ≤ n ∧ n < m) (hm : m ≤ 1000) : Nn n := ⟨h.1, by omega⟩
theorem ty_ok {t : List Ty} {k : Nat} {x : Ty} (ht : t.length ≤ 16) (hk : k ≤ 16) (h : mayX t k x = true) : TOk x := by
 unfold mayX at h
 split at h
 ·rename_i h1
  simp only [Bool.and_eq_true, decide_eq_true_eq] at h
  exact .inl ⟨h1, h.1, h.2.1, List.eq_nil_of_length_eq_zero h.2.2⟩
 split at h
 ·rename_i h1
  simp only [Bool.and_eq_true, decide_eq_true_eq] at h
  exact .inr (.inl ⟨h1, nn_low (lowB_iff.1 h.1 x.elem (by simp)) (by omega), h.2.1, List.eq_nil_of_length_eq_zero h.2.2⟩)
 split at h
 ·rename_i h1
  simp only [Bool.and_eq_true, decide_eq_true_eq] at h
  exact .inr (.inr (.inl ⟨h1, nn_low (plainB_low h.2.1) (by omega), h.2.2.2, fun n hn => nn_low (lowB_iff.1 (plainsB_low h.2.2.1) n hn) (by omega)⟩))
 split at h
 ·rename_i h1
  simp only [Bool.and_eq_true, decide_eq_true_eq] at h
  exact .inr (.inr (.inr (.inl ⟨h1, h.2.2.2.1, h.2.2.2.2, fun n hn => nn_low (lowB_iff.1 h.2.2.1 n hn) (by omega)⟩)))
 split at h
 ·rename_i h1
  simp only [Bool.and_eq_true, decide_eq_true_eq] at h
  exact .inr (.inr (.inr (.inr ⟨h1, nn_low (lowB_iff.1 h.2.2.1 x.elem (by simp)) (by omega), ⟨by omega, by omega⟩, List.eq_nil_of_length_eq_zero h.2.2.2⟩)))
 ·cases h
theorem tys_ok {t : List Ty} (h : chkT t = 0) : t.length ≤ 16 ∧ ∀ (k : Nat) (x : Ty), t[k]? = some x → mayX t k x = true := by
 unfold chkT at h
 split at h
 ·exact absurd h (by decide)
 ·rename_i h16
  split at h
  ·rename_i hg
   refine ⟨by omega, fun k x hx => ?_⟩
   have hk := (List.getElem?_eq_some_iff.1 hx).1
   obtain ⟨y, hy, hm, _⟩ := goodB_iff.1 (List.all_eq_true.1 hg k (List.mem_range.2 hk))
   rw [hx] at hy
   cases hy
   exact hm
  ·exact absurd h (by decide)
theorem ins_ok {nt nr nf nb : Int} {x : Ix} (h : mayIR nt nr nf nb x = true) (h1 : nt ≤ 1000) (h2 : nr ≤ 1000) (h3 : nf ≤ 1000) (h4 : nb ≤ 1000) (hn : I64 x.n) : IOk x := by
 unfold mayIR at h
 split at h
 ·cases h
 rename_i c1
 split at h
 ·cases h
 rename_i c2
 split at h
 ·cases h
 rename_i c3
 have hop : 1 ≤ x.op ∧ x.op ≤ 22 := by omega
 have hu : lowB nr (usesOf x) = true := by
  cases hq : lowB nr (usesOf x) with
  | true => rfl
  | false => exact absurd (.inr (.inr (.inl hq))) c1
 have hmn : mayNR nf x = true := by
  cases hq : mayNR nf x with
  | true => rfl
  | false => exact absurd (.inr (.inr (.inr hq))) c1
 have hus := lowB_iff.1 hu
 have ha0 : hasAB x.op = false → x.a = 0 := fun e => Classical.byContradiction fun hh => c2 (.inl ⟨e, hh⟩)
 have hb0 : twoB x.op = false → x.b = 0 := fun e => Classical.byContradiction fun hh => c2 (.inr (.inl ⟨e, hh⟩))
 have hr0 : argsB x.op = false → x.args = [] := fun e => Classical.byContradiction fun hh => c2 (.inr (.inr ⟨e, List.length_pos_iff.2 hh⟩))
 have ht0 : answersB x.op = false → x.typ = 0 := fun e => Classical.byContradiction fun hh => c3 (.inr ⟨e, hh⟩)
 have hmem : ∀ q, (hasAB x.op = true ∧ q = x.a) ∨ (twoB x.op = true ∧ q = x.b) ∨ (argsB x.op = true ∧ q ∈ x.args) → Nn q := by
  intro q hq
  refine nn_low (hus q ?_) h2
  unfold usesOf
  rcases hq with ⟨e, rfl⟩ | ⟨e, rfl⟩ | ⟨e, hm⟩
  ·rw [if_pos e]; simp
  ·rw [if_pos e]; simp
  ·rw [if_pos e]; simp [hm]
 have zero : Nn 0 := ⟨Int.le_refl _, by decide⟩
 refine ⟨hop, ?_, ht0, ?_, ha0, ?_, hb0, hn, ?_, ?_, ?_, hr0, ?_, ?_, ?_⟩
 ·cases e : answersB x.op with
  | true =>
   refine nn_low (m := nt) ⟨?_, ?_⟩ h1
   ·exact Classical.byContradiction fun hh => c3 (.inl ⟨e, .inl (by omega)⟩)
   ·exact Classical.byContradiction fun hh => c3 (.inl ⟨e, .inr (by omega)⟩)
  | false => rw [ht0 e]; exact zero
 ·cases e : hasAB x.op with
  | true => exact hmem _ (.inl ⟨e, rfl⟩)
  | false => rw [ha0 e]; exact zero
 ·cases e : twoB x.op with
  | true => exact hmem _ (.inr (.inl ⟨e, rfl⟩))
  | false => rw [hb0 e]; exact zero
 ·intro e h1'
  have hc : x.op = 1 ∨ x.op = 3 ∨ x.op = 14 ∨ x.op = 18 := by simpa [hasNB] using e
  unfold mayNR at hmn
  rw [if_neg h1'] at hmn
  split at hmn
  ·exact nn_low (by simpa using hmn) h3
  ·split at hmn
   ·have : 0 ≤ x.n ∧ x.n < 8 := by simpa using hmn
    exact nn_low this (by decide)
   ·omega
 ·intro e
  have hc : ¬ (x.op = 1 ∨ x.op = 3 ∨ x.op = 14 ∨ x.op = 18) := by simpa [hasNB] using e
  unfold mayNR at hmn
  rw [if_neg (by omega), if_neg (by omega), if_neg (by omega)] at hmn
  simpa using hmn
 ·intro q hq
  cases e : argsB x.op with
  | true => exact hmem _ (.inr (.inr ⟨e, hq⟩))
  | false => rw [hr0 e] at hq; cases hq
 ·intro q hq
  by_cases h22 : x.op = 22
  ·rw [if_pos h22] at h
   simp only [Bool.and_eq_true, decide_eq_true_eq] at h
   exact nn_low (lowB_iff.1 h.2 q hq) h4
  ·rw [if_neg h22] at h
   simp only [decide_eq_true_eq] at h
   rw [List.eq_nil_of_length_eq_zero h.1] at hq
   cases hq
 ·intro h22
  rw [if_neg h22] at h
  simp only [decide_eq_true_eq] at h
  exact List.eq_nil_of_length_eq_zero h.1
 ·intro h22
  rw [if_pos h22] at h
  simp only [Bool.and_eq_true, decide_eq_true_eq] at h
  exact h.1.1
theorem en_ok {nr nb : Int} {x : Ex} (h : mayER nr nb x = true) (h2 : nr ≤ 1000) (h4 : nb ≤ 1000) : EOk x := by
 unfold mayER at h
 split at h
 ·rename_i h1
  simp only [Bool.and_eq_true, decide_eq_true_eq] at h
  exact .inl ⟨h1, h.1.1, nn_low (lowB_iff.1 h.2 x.to (by simp)) h4, h.1.2⟩
 split at h
 ·rename_i h1
  simp only [Bool.and_eq_true] at h
  exact .inr (.inl ⟨h1, nn_low (lowB_iff.1 h.1 x.a (by simp)) h2, nn_low (lowB_iff.1 h.2 x.to (by simp)) h4, nn_low (lowB_iff.1 h.2 x.els (by simp)) h4⟩)
 split at h
 ·rename_i h1
  simp only [Bool.and_eq_true, decide_eq_true_eq] at h
  exact .inr (.inr ⟨h1, nn_low (lowB_iff.1 h.2 x.a (by simp)) h2, h.1.1, h.1.2⟩)
 ·cases h
def N64 (p : Px) : Prop := ∀ f ∈ p.funcs, ∀ b ∈ f.blocks, ∀ x ∈ b.ins, I64 x.n
/-- A SHAPE THAT MAY BE IS TOLD WHOLE -/
theorem prog_ok {p : Px} (h : chkP p = 0) (ho : POk p) (hn : N64 p) : POkW p := by
 unfold chkP at h
 split at h
 ·rename_i hc; exact absurd h hc
 rename_i hc
 have hc0 : chkT p.types = 0 := Classical.byContradiction fun hh => hc hh
 obtain ⟨h16, hmay⟩ := tys_ok hc0
 split at h
 ·exact absurd h (by decide)
 rename_i hfn
 split at h
 ·rename_i hall
  refine ⟨fun t ht => ?_, fun f hf => ?_⟩
  ·obtain ⟨k, hk, rfl⟩ := List.getElem_of_mem ht
   exact ty_ok h16 (by omega) (hmay k _ (List.getElem?_eq_getElem hk))
  ·have hmf := List.all_eq_true.1 hall f hf
   unfold mayF at hmf
   split at hmf
   ·cases hmf
   rename_i hs
   have hsig : 0 ≤ f.sig ∧ f.sig < p.types.length := by omega
   split at hmf
   ·cases hmf
   rename_i hkd
   split at hmf
   ·cases hmf
   rename_i hbl
   have hlt : f.sig.toNat < p.types.length := by omega
   have hx := List.getElem?_eq_getElem hlt
   have hm3 := hmay _ _ hx
   have hk3 : (p.types[f.sig.toNat]).kind = 3 := by
    have : kindAt p.types f.sig = 3 := Classical.byContradiction fun hh => hkd hh
    unfold kindAt at this
    rwa [hx] at this
   have hp4 : (p.types[f.sig.toNat]).parts.length ≤ 4 := by
    unfold mayX at hm3
    rw [if_neg (by omega), if_neg (by omega), if_pos hk3] at hm3
    simp only [Bool.and_eq_true, decide_eq_true_eq] at hm3
    exact hm3.1
   have hpar : parOf p.types f.sig = (p.types[f.sig.toNat]).parts.length := by unfold parOf; rw [hx]; rfl
   have hreg : regOf p.types f.sig = ((p.types[f.sig.toNat]).parts.length : Int) := by unfold regOf; rw [hx]
   have hmb : insN f.blocks = manyB f.blocks := rfl
   refine ⟨⟨hsig.1, by omega⟩, fun b hb => ?_, by rw [hreg, hmb]; omega⟩
   have hbb := List.all_eq_true.1 hmf b hb
   unfold mayBl at hbb
   simp only [Bool.and_eq_true, List.all_eq_true] at hbb
   obtain ⟨he0, hi0⟩ := ho f hf b hb
   refine ⟨fun x hx => ?_, ?_⟩
   ·have hi := hbb.2 x hx
    rw [mayI_eq (hi0 x hx).1] at hi
    exact ins_ok hi (by omega) (by rw [hpar]; omega) (by omega) (by omega) (hn f hf b hb x hx)
   ·have he := hbb.1
    rw [mayE_eq he0.1] at he
    exact en_ok he (by rw [hpar]; omega) (by omega)
 ·exact absurd h (by decide)
end Go.Proofs.YtbebficgcemkoaaGreatDoor.WrC
namespace Go.Proofs.YtbebficgcemkoaaGreatDoor.WkF
open Go.RowKit Go.Lib TyM ShM ShP ShH ShI LxM LxP LxK LxJ LxY RdM RdN RdV NumP WrM WrI WrP WrC

theorem nn64 {n : Int} (h : Nn n) : I64 n := by
 unfold Nn at h; unfold I64; omega
/-- a program that may be written -/
structure FineQ (p : Px) : Prop where
 types : p.types.length ≤ 16
 parts : ∀ t ∈ p.types, t.parts.length ≤ 1000
 elem : ∀ t ∈ p.types, I64 t.elem ∧ I64 t.many ∧ ∀ n ∈ t.parts, I64 n
 funcs : p.funcs.length ≤ 8
 sig : ∀ f ∈ p.funcs, 0 ≤ f.sig ∧ f.sig < p.types.length
 blocks : ∀ f ∈ p.funcs, f.blocks.length ≤ 16 ∧ insN f.blocks ≤ 128
 ins : ∀ f ∈ p.funcs, ∀ b ∈ f.blocks, ∀ x ∈ b.ins, IOk x ∧ x.args.length ≤ 40
 en : ∀ f ∈ p.funcs, ∀ b ∈ f.blocks, I64 b.en.a ∧ I64 b.en.to ∧ I64 b.en.els
theorem ty_64 {t : Ty} (h : TOk t) : I64 t.elem ∧ I64 t.many ∧ ∀ n ∈ t.parts, I64 n := by
 have h0 : I64 0 := by unfold I64; omega
 rcases h with ⟨_, h1, h2, h3⟩ | ⟨_, h1, h2, h3⟩ | ⟨_, h1, h2, h3⟩ | ⟨_, h1, h2, h3⟩ | ⟨_, h1, h2, h3⟩
 ·rw [h1, h2, h3]; exact ⟨h0, h0, fun n hn => by cases hn⟩
 ·rw [h2, h3]; exact ⟨nn64 h1, h0, fun n hn => by cases hn⟩
 ·rw [h2]; exact ⟨nn64 h1, h0, fun n hn => nn64 (h3 n hn)⟩
 ·rw [h1, h2]; exact ⟨h0, h0, fun n hn => nn64 (h3 n hn)⟩
 ·rw [h3]; exact ⟨nn64 h1, nn64 h2, fun n hn => by cases hn⟩
theorem en_64 {x : Ex} (h : EOk x) : I64 x.a ∧ I64 x.to ∧ I64 x.els := by
 have h0 : I64 0 := by unfold I64; omega
 rcases h with ⟨_, h1, h2, h3⟩ | ⟨_, h1, h2, h3⟩ | ⟨_, h1, h2, h3⟩
 ·rw [h1, h3]; exact ⟨h0, nn64 h2, h0⟩
 ·exact ⟨nn64 h1, nn64 h2, nn64 h3⟩
 ·rw [h2, h3]; exact ⟨nn64 h1, h0, h0⟩
theorem args_le {nt nr nf nb : Int} {x : Ix} (h : mayIR nt nr nf nb x = true) : x.args.length ≤ 16 := by
 unfold mayIR at h
 split at h
 ·cases h
 split at h
 ·cases h
 split at h
 ·cases h
 split at h
 ·simp only [Bool.and_eq_true, decide_eq_true_eq] at h; omega
 ·simp only [decide_eq_true_eq] at h; omega
theorem parts_le {t : List Ty} {k : Nat} {x : Ty} (h : mayX t k x = true) : x.parts.length ≤ 8 := by
 unfold mayX at h
 split at h
 ·simp only [Bool.and_eq_true, decide_eq_true_eq] at h; omega
 split at h
 ·simp only [Bool.and_eq_true, decide_eq_true_eq] at h; omega
 split at h
 ·simp only [Bool.and_eq_true, decide_eq_true_eq] at h; omega
 split at h
 ·simp only [Bool.and_eq_true, decide_eq_true_eq] at h; omega
 split at h
 ·simp only [Bool.and_eq_true, decide_eq_true_eq] at h; omega
 ·cases h
theorem fine_of {p : Px} (h : chkP p = 0) (ho : POk p) (hn : N64 p) : FineQ p := by
 obtain ⟨hw1, hw2⟩ := prog_ok h ho hn
 unfold chkP at h
 split at h
 ·rename_i hc; exact absurd h hc
 rename_i hc
 have hc0 : chkT p.types = 0 := Classical.byContradiction fun hh => hc hh
 obtain ⟨h16, hmay⟩ := tys_ok hc0
 split at h
 ·exact absurd h (by decide)
 rename_i hfn
 split at h
 rotate_left
 ·exact absurd h (by decide)
 rename_i hall
 have hF : ∀ f ∈ p.funcs, (0 ≤ f.sig ∧ f.sig < p.types.length) ∧ (f.blocks.length ≤ 16 ∧ insN f.blocks ≤ 128) ∧ ∀ b ∈ f.blocks, ∀ x ∈ b.ins, x.args.length ≤ 40 := fun f hf => by
  have hmf := List.all_eq_true.1 hall f hf
  unfold mayF at hmf
  split at hmf
  ·cases hmf
  rename_i hs
  split at hmf
  ·cases hmf
  split at hmf
  ·cases hmf
  rename_i hbl
  have hmb : insN f.blocks = manyB f.blocks := rfl
  refine ⟨by omega, by omega, fun b hb x hx => ?_⟩
  have hbb := List.all_eq_true.1 hmf b hb
  unfold mayBl at hbb
  simp only [Bool.and_eq_true, List.all_eq_true] at hbb
  have hi := hbb.2 x hx
  obtain ⟨_, hi0⟩ := ho f hf b hb
  rw [ShN.mayI_eq (hi0 x hx).1] at hi
  have := args_le hi
  omega
 exact {
  types := h16
  parts := fun t ht => by
   obtain ⟨k, hk, rfl⟩ := List.getElem_of_mem ht
   have := parts_le (hmay k _ (List.getElem?_eq_getElem hk))
   omega
  elem := fun t ht => ty_64 (hw1 t ht)
  funcs := by omega
  sig := fun f hf => (hF f hf).1
  blocks := fun f hf => (hF f hf).2.1
  ins := fun f hf b hb x hx => ⟨((hw2 f hf).2.1 b hb).1 x hx, (hF f hf).2.2 b hb x hx⟩
  en := fun f hf b hb => en_64 ((hw2 f hf).2.1 b hb).2 }

/-! lines one behind the other -/
theorem insWs_snoc (l : List Ix) (x : Ix) : ∀ r : Int, insWs (l ++ [x]) r = insWs l r ++ [insW x (r + l.length)] := by
 induction l with
 | nil => intro r; show [insW x r] = [insW x (r + ((0 : Nat) : Int))]; rw [show r + ((0 : Nat) : Int) = r by omega]
 | cons y l ih =>
  intro r
  show insW y r :: insWs (l ++ [x]) (r + 1) = insW y r :: (insWs l (r + 1) ++ [insW x (r + ((l.length + 1 : Nat) : Int))])
  rw [ih, show r + 1 + (l.length : Int) = r + ((l.length + 1 : Nat) : Int) by omega]
theorem blocksW_snoc (b : Bx) : ∀ (bs : List Bx) (r : Int), blocksW (bs ++ [b]) r = blocksW bs r ++ (blW :: (insWs b.ins (r + insN bs) ++ [endW b.en]))
 | [], r => by
  show blW :: (insWs b.ins r ++ endW b.en :: []) = blW :: (insWs b.ins (r + ((0 : Nat) : Int)) ++ [endW b.en])
  rw [show r + ((0 : Nat) : Int) = r by omega]
 | c :: bs, r => by
  show blW :: (insWs c.ins r ++ endW c.en :: blocksW (bs ++ [b]) (r + c.ins.length)) = blW :: (insWs c.ins r ++ endW c.en :: blocksW bs (r + c.ins.length)) ++ _
  rw [blocksW_snoc b bs, show r + (c.ins.length : Int) + (insN bs : Nat) = r + (insN (c :: bs) : Nat) by simp only [insN, List.map_cons, List.sum_cons]; omega]
  simp
theorem funcsW_snoc (ts : List Ty) (f : Fx) : ∀ fs : List Fx, funcsW ts (fs ++ [f]) = funcsW ts fs ++ (fnW f.sig :: blocksW f.blocks (regOf ts f.sig))
 | [] => by show fnW f.sig :: (blocksW f.blocks (regOf ts f.sig) ++ []) = _; rw [List.append_nil]; rfl
 | g :: fs => by
  show fnW g.sig :: (blocksW g.blocks (regOf ts g.sig) ++ funcsW ts (fs ++ [f])) = fnW g.sig :: (blocksW g.blocks (regOf ts g.sig) ++ funcsW ts fs) ++ _
  rw [funcsW_snoc ts f fs]
  simp
theorem insN_take (bs : List Bx) (j : Nat) (h : j < bs.length) : insN (bs.take (j + 1)) = insN (bs.take j) + bs[j].ins.length := by
 rw [List.take_succ_eq_append_getElem h]
 unfold insN
 rw [List.map_append, List.sum_append]
 rfl
theorem insN_le (bs : List Bx) (j : Nat) : insN (bs.take j) ≤ insN bs := by
 have h : insN bs = insN (bs.take j) + insN (bs.drop j) := by
  conv => lhs; rw [← List.take_append_drop j bs]
  simp only [insN, List.map_append, List.sum_append]
 omega
end Go.Proofs.YtbebficgcemkoaaGreatDoor.WkF
namespace Go.Proofs.YtbebficgcemkoaaGreatDoor.WrT
open Go.RowKit Go.Lib TyM ShM ShP ShI LxM LxP LxK LxJ LxY RdM RdN RdV NumP WrM WrI WrP WrC

/-- a program's own text, or the error -/
def writeO (p : Px) : Int × List UInt8 := if chkP p = 0 then (jnE (unL (progW p)), jnT (unL (progW p))) else (chkP p, [])
end Go.Proofs.YtbebficgcemkoaaGreatDoor.WrT
