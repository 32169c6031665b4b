/- What layer 11 answers of a program, in plain: the registers that live at a place, and at a block's end. What is asked of the package live: its functions' contracts, as propositions. Plain facts: what the reference's Lives and atEnd do to a row of bools, step by step; which registers they meet. LiveEnd in plain: the numbers that a block's end is asked for, one list behind the other. Plain facts for LiveWays: ways on, block by block, to where a register is read. What the package live does, in plain: what a block reads from a place on, what phis read at its end, the search for a way. Walks over live.has, live.set, (live.part).reads and (live.part).owns: sets of registers in memory. Walk over live.cut's closure: what is read, ahead of its own instruction. Walk over live.cut: what a block reads from a place on. Walk over live.phis: the registers that phis read at a block's end. Plain facts for ShapeBack: where a register lies, and the next one. Plain facts: of a function that is well formed, what lives at a place is set there. What layer 12 answers of a program, in plain: registers' types, and which programs are well formed. What is asked of the package sound: its functions' contracts, as propositions. -/
import Derived.Test.YtpejpnffcepdlaaGreatDoorZShIToIntG
import Derived.Test.YtpejpnffcepdlaaGreatDoorZBlkGToFeP
import Derived.Test.YtpejpnffcepdlaaGreatDoorZSetInToBitHas
import Derived.Test.YtpejpnffcepdlaaGreatDoorZFwRToTyRT
import Derived.Test.YtpejpnffcepdlaaGreatDoorZIntOToSwXd
import Derived.Test.YtpejpnffcepdlaaGreatDoorZFresh
import Derived.Test.YtpejpnffcepdlaaGreatDoorZTyBToTyTI
import Derived.RangeFuncBox
import Derived.Deep.LoopGhost
import Derived.Test.YtpejpnffcepdlaaGreatDoorZShBToShW
import Derived.Test.YtpejpnffcepdlaaGreatDoorZTyMToShN
namespace Go.Proofs.YtpejpnffcepdlaaGreatDoor.LvQ
open TyM ShM ShP ShE ShH ShI ShN ShJ ShK ShL FwM FwC FwP FwQ FdQ FxL LvM

/-- an instruction's register -/
def ownN (par : Nat) (l : List Bx) (b k : Nat) : Nat := par + manyB (l.take b) + k
/-- what lives at blocks' beginnings -/
def begX (par : Nat) (l : List Bx) (r : Nat) : Nat → Bool := rnd (inB l (ownN par l) r) l.length
def endB (par : Nat) (l : List Bx) (b r : Nat) : Bool := outB l r (begX par l r) b
def livB (par : Nat) (l : List Bx) (b pl r : Nat) : Bool := (within (ownN par l) r b (endAt l b) pl ((insAt l b).drop pl)).getD (endB par l b r)
theorem endB_iff {par : Nat} {l : List Bx} (h : Low l) {b r : Nat} (hb : b < l.length) : endB par l b r = true ↔ Lv l (ownN par l) r b ((insAt l b).length + 1) := by
 unfold endB outB begX
 rw [lv_out, List.any_eq_true]
 constructor
 ·rintro ⟨j, hj, hv⟩
  refine ⟨j, hj, ?_⟩
  rcases Bool.or_eq_true_iff.1 hv with e | e
  ·exact .inl ((rounds_lv h (Nat.le_refl _) (succ_lt h b hb j hj)).1 e)
  ·exact .inr e
 ·rintro ⟨j, hj, hv⟩
  refine ⟨j, hj, ?_⟩
  rcases hv with e | e
  ·rw [(rounds_lv h (Nat.le_refl _) (succ_lt h b hb j hj)).2 e]; rfl
  ·rw [e]; simp
theorem livB_iff {par : Nat} {l : List Bx} (h : Low l) {b r pl : Nat} (hb : b < l.length) (hp : pl ≤ (insAt l b).length) : livB par l b pl r = true ↔ Lv l (ownN par l) r b pl := by
 rw [within_lv ((insAt l b).drop pl) b pl rfl hp, ← endB_iff h hb]
 unfold livB
 cases within (ownN par l) r b (endAt l b) pl ((insAt l b).drop pl) with
 | none => simp
 | some t => simp
/-- how many parameters a function has -/
def parP (p : Px) (f : Int) : Nat := parOf p.types (fnP p f).sig
def livesL (par N : Nat) (l : List Bx) (b pl : Nat) : List Nat := (List.range N).filter fun r => livB par l b pl r
def liveA (p : Px) (f block pl : Int) : List Int := if atE p f block pl = 0 then ints (livesL (parP p f) (cntP p f) (blsP p f) block.toNat pl.toNat) else []
theorem atE_zero {p : Px} {f block pl : Int} (h : atE p f block pl = 0) : askB p f block = 0 ∧ 0 ≤ pl ∧ pl ≤ insN (blsP p f) block := by
 unfold atE at h
 split at h
 ·rename_i hh; exact absurd h hh
 ·rename_i hh
  split at h
  ·cases h
  ·rename_i h2; exact ⟨by omega, by omega, by omega⟩
theorem atE_first {p : Px} {f block : Int} : atE p f block 0 = askB p f block := by
 unfold atE
 split
 ·rfl
 ·rename_i hh
  rw [if_neg (by omega)]
  omega
theorem livesL_mem {par N : Nat} {l : List Bx} {b pl r : Nat} : r ∈ livesL par N l b pl ↔ r < N ∧ livB par l b pl r = true := by
 unfold livesL
 rw [List.mem_filter, List.mem_range]
end Go.Proofs.YtpejpnffcepdlaaGreatDoor.LvQ
namespace Go.Proofs.YtpejpnffcepdlaaGreatDoor.LgK
open Go.RowKit Go.Lib SetP IntO TyM TyP TyB ShM ShP ShA ShI ShJ FwP FwQ FwR FwK FdQ LvQ

def AtC : Prop := ∀ (p : Px) (f b pl : Int) (v : Value) (w : World), PrAt w v p → Tab w → Small p → POk p → I64 f → I64 b → I64 pl →
 Calls Tryz.prog 21 #[v, .int .i64 f, .int .i64 b, .int .i64 pl] w (LstE (liveA p f b pl) (atE p f b pl) w)
end Go.Proofs.YtpejpnffcepdlaaGreatDoor.LgK
namespace Go.Proofs.YtpejpnffcepdlaaGreatDoor.LuM
open TyM ShM ShP ShE ShH ShI ShN ShJ FwM FwC FwP FwQ FdQ FxL LvM LvQ

/-- of a function that may be: its instructions' and its ends' registers -/
structure Regs (N : Nat) (l : List Bx) : Prop where
 uses : ∀ b ∈ l, ∀ x ∈ b.ins, ∀ r ∈ usesOf x, 0 ≤ r ∧ r < N
 ends : ∀ b ∈ l, ∀ r ∈ endsOf b.en, 0 ≤ r ∧ r < N
 phi : ∀ b ∈ l, ∀ x ∈ b.ins, x.op = 22 → x.frm.length = x.args.length ∧ ∀ r ∈ x.args, 0 ≤ r ∧ r < N
 other : ∀ b ∈ l, ∀ x ∈ b.ins, x.op ≠ 22 → x.frm = []
 few : ∀ b ∈ l, ∀ x ∈ b.ins, x.args.length ≤ 16
 many : manyB l ≤ 128
theorem fewer {l : List Bx} {b : Bx} (h : b ∈ l) : b.ins.length ≤ manyB l := by
 induction l with
 | nil => cases h
 | cons c l ih =>
  rw [manyB_cons]
  rcases List.mem_cons.1 h with rfl | h
  ·omega
  ·have := ih h; omega
theorem low_mem {n r : Int} {L : List Int} (h : lowB n L = true) (hr : r ∈ L) : 0 ≤ r ∧ r < n := by
 unfold lowB at h
 have := List.all_eq_true.1 h r hr
 simpa using this
theorem regs_of {p : Px} {f : Fx} (h : chkP p = 0) (ho : POk p) (hf : f ∈ p.funcs) : Regs (parOf p.types f.sig + manyB f.blocks) f.blocks := by
 unfold chkP at h
 split at h
 ·rename_i hc; exact absurd h hc
 split at h
 ·exact absurd h (by decide)
 split at h
 ·rename_i hall
  have hmf := List.all_eq_true.1 hall f hf
  unfold mayF at hmf
  split at hmf
  ·cases hmf
  split at hmf
  ·cases hmf
  split at hmf
  ·cases hmf
  rename_i hbl
  have hi : ∀ b ∈ f.blocks, ∀ x ∈ b.ins, mayIR p.types.length ((parOf p.types f.sig + manyB f.blocks : Nat) : Int) p.funcs.length f.blocks.length x = true := by
   intro b hb x hx
   have hbb := List.all_eq_true.1 hmf b hb
   unfold mayBl at hbb
   simp only [Bool.and_eq_true] at hbb
   have := List.all_eq_true.1 hbb.2 x hx
   rwa [mayI_eq ((ho f hf b hb).2 x hx).1] at this
  have he : ∀ b ∈ f.blocks, mayER ((parOf p.types f.sig + manyB f.blocks : Nat) : Int) f.blocks.length b.en = true := by
   intro b hb
   have hbb := List.all_eq_true.1 hmf b hb
   unfold mayBl at hbb
   simp only [Bool.and_eq_true] at hbb
   have := hbb.1
   rwa [mayE_eq (ho f hf b hb).1.1] at this
  have hu : ∀ b ∈ f.blocks, ∀ x ∈ b.ins, lowB ((parOf p.types f.sig + manyB f.blocks : Nat) : Int) (usesOf x) = true := by
   intro b hb x hx
   have h1 := hi b hb x hx
   unfold mayIR at h1
   split at h1
   ·cases h1
   rename_i hn
   cases e : lowB ((parOf p.types f.sig + manyB f.blocks : Nat) : Int) (usesOf x) with
   | true => rfl
   | false => exact absurd (.inr (.inr (.inl e))) hn
  have hphi : ∀ b ∈ f.blocks, ∀ x ∈ b.ins, (x.op = 22 → x.frm.length = x.args.length ∧ x.frm.length ≤ 16) ∧ (x.op ≠ 22 → x.frm = [] ∧ x.args.length ≤ 4) := by
   intro b hb x hx
   have h1 := hi b hb x hx
   unfold mayIR at h1
   split at h1
   ·cases h1
   split at h1
   ·cases h1
   split at h1
   ·cases h1
   split at h1
   ·rename_i h22
    simp only [Bool.and_eq_true, decide_eq_true_eq] at h1
    exact ⟨fun _ => ⟨h1.1.1, h1.1.2.2⟩, fun e => absurd h22 e⟩
   ·rename_i h22
    have h2 := of_decide_eq_true h1
    exact ⟨fun e => absurd e h22, fun _ => ⟨List.eq_nil_of_length_eq_zero h2.1, h2.2⟩⟩
  refine ⟨fun b hb x hx r hr => low_mem (hu b hb x hx) hr, fun b hb r hr => ?_, fun b hb x hx h22 => ⟨((hphi b hb x hx).1 h22).1, fun r hr => low_mem (hu b hb x hx) ?_⟩, fun b hb x hx h22 => ((hphi b hb x hx).2 h22).1, fun b hb x hx => ?_, by omega⟩
  ·have h1 := he b hb
   unfold mayER at h1
   unfold endsOf at hr
   split at hr
   ·rename_i hk
    obtain rfl := List.mem_singleton.1 hr
    split at h1
    ·rename_i e; omega
    split at h1
    ·simp only [Bool.and_eq_true] at h1
     exact low_mem h1.1 (by simp)
    split at h1
    ·simp only [Bool.and_eq_true] at h1
     exact low_mem h1.2 (by simp)
    ·cases h1
   ·cases hr
  ·have ha : argsB x.op = true := by rw [h22]; decide
   unfold usesOf
   rw [if_pos ha]
   simp [hr]
  ·by_cases e : x.op = 22
   ·have := (hphi b hb x hx).1 e; omega
   ·have := (hphi b hb x hx).2 e; omega
 ·exact absurd h (by decide)

/-! bools, step by step -/
def seen (x : Ix) : List Int := if x.op = 22 then [] else usesOf x
/-! at a block's end: one that comes behind it after the other -/
/-- those that the first m instructions read as a phi, of the block b -/
def phiT (b : Nat) (xs : List Ix) (r : Nat) : Bool := xs.any fun x => decide (x.op = 22) && decide (((b : Int), (r : Int)) ∈ x.frm.zip x.args)
/-! the rounds -/
end Go.Proofs.YtpejpnffcepdlaaGreatDoor.LuM
namespace Go.Proofs.YtpejpnffcepdlaaGreatDoor.LgD
open TyM ShM ShP ShE ShH ShI ShN ShJ FwM FwC FwP FwQ FdQ FxL LvM LvQ LuM

/-- of an instruction, the first m pairs: what a phi reads from b -/
def prL (b m : Nat) (x : Ix) : List Int := if x.op = 22 then (((x.frm.zip x.args).take m).filter fun q => decide (q.1 = (b : Int))).map (·.2) else []
def insL (b : Nat) (xs : List Ix) : List Int := xs.flatMap fun x => prL b x.frm.length x
theorem prL_mem {b m r : Nat} {x : Ix} : (r : Int) ∈ prL b m x ↔ x.op = 22 ∧ ((b : Int), (r : Int)) ∈ (x.frm.zip x.args).take m := by
 unfold prL
 by_cases e : x.op = 22
 ·simp only [e, if_true, true_and, List.mem_map, List.mem_filter, decide_eq_true_eq]
  constructor
  ·rintro ⟨⟨q1, q2⟩, ⟨h1, h2⟩, h3⟩
   simp only at h2 h3
   subst h2
   subst h3
   exact h1
  ·intro h
   exact ⟨_, ⟨h, rfl⟩, rfl⟩
 ·simp [e]
theorem insL_mem {b r : Nat} {xs : List Ix} : (r : Int) ∈ insL b xs ↔ phiT b xs r = true := by
 unfold insL phiT
 rw [List.mem_flatMap, List.any_eq_true]
 constructor
 ·rintro ⟨x, hx, h⟩
  obtain ⟨h1, h2⟩ := prL_mem.1 h
  rw [List.take_of_length_le (by rw [List.length_zip]; omega)] at h2
  exact ⟨x, hx, by simp [h1, h2]⟩
 ·rintro ⟨x, hx, h⟩
  simp only [Bool.and_eq_true, decide_eq_true_eq] at h
  exact ⟨x, hx, prL_mem.2 ⟨h.1, by rw [List.take_of_length_le (by rw [List.length_zip]; omega)]; exact h.2⟩⟩
/-! step by step -/
theorem prL_zero (b : Nat) (x : Ix) : prL b 0 x = [] := by unfold prL; split <;> simp
theorem prL_yes {b m : Nat} {x : Ix} {u : Int} (h22 : x.op = 22) (hf : x.frm[m]? = some (b : Int)) (ha : x.args[m]? = some u) : prL b (m + 1) x = prL b m x ++ [u] := by
 have hz : (x.frm.zip x.args)[m]? = some ((b : Int), u) := by rw [List.getElem?_zip_eq_some]; exact ⟨hf, ha⟩
 obtain ⟨hk, he⟩ := List.getElem?_eq_some_iff.1 hz
 unfold prL
 rw [if_pos h22, if_pos h22, List.take_succ_eq_append_getElem hk, he, List.filter_append, List.map_append]
 simp
theorem prL_no {b m : Nat} {x : Ix} {c u : Int} (hf : x.frm[m]? = some c) (ha : x.args[m]? = some u) (hc : c ≠ (b : Int)) : prL b (m + 1) x = prL b m x := by
 have hz : (x.frm.zip x.args)[m]? = some (c, u) := by rw [List.getElem?_zip_eq_some]; exact ⟨hf, ha⟩
 obtain ⟨hk, he⟩ := List.getElem?_eq_some_iff.1 hz
 unfold prL
 by_cases e : x.op = 22
 ·rw [if_pos e, if_pos e, List.take_succ_eq_append_getElem hk, he, List.filter_append, List.map_append]
  simp [hc]
 ·rw [if_neg e, if_neg e]
theorem insL_succ {b k : Nat} {xs : List Ix} {x : Ix} (h : xs[k]? = some x) : insL b (xs.take (k + 1)) = insL b (xs.take k) ++ prL b x.frm.length x := by
 obtain ⟨hk, he⟩ := List.getElem?_eq_some_iff.1 h
 unfold insL
 rw [List.take_succ_eq_append_getElem hk, he, List.flatMap_append]
 simp
/-! how long they are -/
theorem prL_len (b m : Nat) (x : Ix) : (prL b m x).length ≤ m := by
 unfold prL
 split
 ·rw [List.length_map]
  refine Nat.le_trans (List.length_filter_le _ _) ?_
  rw [List.length_take]
  omega
 ·simp
theorem insL_len (b : Nat) : ∀ (xs : List Ix), (∀ x ∈ xs, x.frm.length ≤ 16) → (insL b xs).length ≤ 16 * xs.length
 | [], _ => by simp [insL]
 | x :: xs, h => by
  have h1 := insL_len b xs (fun y hy => h y (List.mem_cons_of_mem _ hy))
  have h2 := prL_len b x.frm.length x
  have h3 := h x List.mem_cons_self
  unfold insL at h1 ⊢
  rw [List.flatMap_cons, List.length_append, List.length_cons]
  omega
theorem frm_few {N : Nat} {l : List Bx} (h : Regs N l) {b : Bx} (hb : b ∈ l) {x : Ix} (hx : x ∈ b.ins) : x.frm.length ≤ 16 := by
 by_cases e : x.op = 22
 ·rw [(h.phi b hb x hx e).1]; exact h.few b hb x hx
 ·rw [h.other b hb x hx e]; simp
theorem insAt_facts {N : Nat} {l : List Bx} (h : Regs N l) {j : Nat} (hj : j < l.length) : (insAt l j).length ≤ 128 ∧ ∀ x ∈ insAt l j, x.frm.length ≤ 16 ∧ x.args.length ≤ 16 ∧ (x.op = 22 → x.frm.length = x.args.length) ∧ (x.op ≠ 22 → x.frm = []) := by
 have hm : l[j] ∈ l := List.getElem_mem hj
 have e : insAt l j = l[j].ins := by unfold insAt; rw [List.getElem?_eq_getElem hj]; rfl
 rw [e]
 refine ⟨Nat.le_trans (fewer hm) h.many, fun x hx => ⟨frm_few h hm hx, h.few _ hm x hx, fun e => (h.phi _ hm x hx e).1, fun e => h.other _ hm x hx e⟩⟩
theorem insL_few {N : Nat} {l : List Bx} (h : Regs N l) {b j : Nat} (hj : j < l.length) (k : Nat) : (insL b ((insAt l j).take k)).length ≤ 2048 := by
 obtain ⟨h1, h2⟩ := insAt_facts h hj
 have := insL_len b ((insAt l j).take k) (fun x hx => (h2 x (List.mem_of_mem_take hx)).1)
 have h3 : ((insAt l j).take k).length ≤ 128 := by rw [List.length_take]; omega
 omega
end Go.Proofs.YtpejpnffcepdlaaGreatDoor.LgD
namespace Go.Proofs.YtpejpnffcepdlaaGreatDoor.LvW
open TyM ShM ShP FwM FwC FwP FwQ FwB FxL LvM LvQ

section
variable (l : List Bx) (own : Nat → Nat → Nat) (r : Nat)
/-- what becomes of it on from a block's beginning -/
def win (j : Nat) : Option Bool := within own r j (endAt l j) 0 (insAt l j)
/-- where it goes through -/
def passT (b : Nat) : List Nat := (succ l b).filter fun j => decide (win l own r j = none)
/-- it is read at the block's end, or in one that it goes to -/
def hitB (b : Nat) : Bool := (succ l b).any fun j => byPhi l r b j || decide (win l own r j = some true)
end
variable {l : List Bx} {own : Nat → Nat → Nat} {r : Nat}
theorem pass_lt (h : Low l) : ∀ i, i < l.length → ∀ j ∈ passT l own r i, j < l.length := fun i hi j hj => succ_lt h i hi j (List.mem_filter.1 hj).1
theorem lv_begin (j : Nat) : Lv l own r j 0 ↔ win l own r j = some true ∨ (win l own r j = none ∧ Lv l own r j ((insAt l j).length + 1)) := within_lv (insAt l j) j 0 rfl (Nat.zero_le _)
theorem hit_end {c : Nat} (h : hitB l own r c = true) : Lv l own r c ((insAt l c).length + 1) := by
 obtain ⟨j, hj, hv⟩ := List.any_eq_true.1 h
 rcases Bool.or_eq_true_iff.1 hv with e | e
 ·exact .phi hj e
 ·exact .go hj ((lv_begin j).2 (.inl (of_decide_eq_true e)))
/-- WAYS TO WHERE IT IS READ -/
theorem ways_iff (b : Nat) : Lv l own r b ((insAt l b).length + 1) ↔ ∃ c, FwM.Comes (passT l own r) b c ∧ hitB l own r c = true := by
 constructor
 ·have key : ∀ {b k : Nat}, Lv l own r b k → (k ≤ (insAt l b).length → (within own r b (endAt l b) k ((insAt l b).drop k) = some true ∨ (within own r b (endAt l b) k ((insAt l b).drop k) = none ∧ ∃ c, FwM.Comes (passT l own r) b c ∧ hitB l own r c = true))) ∧ (k = (insAt l b).length + 1 → ∃ c, FwM.Comes (passT l own r) b c ∧ hitB l own r c = true) := by
   intro b k h
   induction h with
   | @read b k x hx hr =>
    have hlt := (List.getElem?_eq_some_iff.1 hx).1
    refine ⟨fun _ => .inl ?_, fun e => by omega⟩
    rw [List.drop_eq_getElem_cons hlt]
    unfold within
    rw [show (insAt l b)[k] = x from (List.getElem?_eq_some_iff.1 hx).2, if_pos hr]
   | @next b k hlt hne _ ih =>
    refine ⟨fun _ => ?_, fun e => by omega⟩
    have i1 := ih.1 hlt
    rw [List.drop_eq_getElem_cons hlt]
    unfold within
    by_cases hr : readsI r (insAt l b)[k] = true
    ·rw [if_pos hr]; exact .inl rfl
    ·rw [if_neg hr, if_neg hne]; exact i1
   | @ends b he =>
    refine ⟨fun _ => .inl ?_, fun e => by omega⟩
    rw [List.drop_length]
    unfold within
    rw [if_pos he]
   | @fall b _ ih =>
    have i2 := ih.2 rfl
    refine ⟨fun _ => ?_, fun e => by omega⟩
    rw [List.drop_length]
    unfold within
    by_cases he : (r : Int) ∈ endsOf (endAt l b)
    ·rw [if_pos he]; exact .inl rfl
    ·rw [if_neg he]; exact .inr ⟨rfl, i2⟩
   | @go b j hj _ ih =>
    refine ⟨fun e => by omega, fun _ => ?_⟩
    have i1 := ih.1 (Nat.zero_le _)
    rw [List.drop_zero] at i1
    rcases i1 with e | ⟨e, c, hc, hh⟩
    ·exact ⟨b, .here, List.any_eq_true.2 ⟨j, hj, by rw [Bool.or_eq_true]; exact .inr (decide_eq_true e)⟩⟩
    ·exact ⟨c, (FwM.Comes.one (List.mem_filter.2 ⟨hj, decide_eq_true e⟩)).trans hc, hh⟩
   | @phi b j hj hp =>
    refine ⟨fun e => by omega, fun _ => ⟨b, .here, List.any_eq_true.2 ⟨j, hj, by rw [hp]; rfl⟩⟩⟩
  exact fun h => (key h).2 rfl
 ·rintro ⟨c, hc, hh⟩
  have back : ∀ {c}, FwM.Comes (passT l own r) b c → Lv l own r c ((insAt l c).length + 1) → Lv l own r b ((insAt l b).length + 1) := by
   intro c hc
   induction hc with
   | here => exact fun h => h
   | step _ hm ih =>
    intro h
    obtain ⟨h1, h2⟩ := List.mem_filter.1 hm
    exact ih (.go h1 ((lv_begin _).2 (.inr ⟨of_decide_eq_true h2, h⟩)))
  exact back hc (hit_end hh)
end Go.Proofs.YtpejpnffcepdlaaGreatDoor.LvW
namespace Go.Proofs.YtpejpnffcepdlaaGreatDoor.LiM
open TyM ShM ShP FwM FwC FwP FwQ FwB FdQ FxL LvM LvQ LvW LuM LgD

/-- one of so many registers from fr on -/
def ownd (fr k : Nat) (r : Int) : Bool := decide ((fr : Int) ≤ r ∧ r < ((fr + k : Nat) : Int))
theorem ownd_iff {fr k r : Nat} : ownd fr k (r : Int) = true ↔ fr ≤ r ∧ r < fr + k := by
 unfold ownd
 rw [decide_eq_true_iff]
 omega
/-- those of a list that are none of these -/
def outs (fr k : Nat) (l : List Int) : List Int := l.filter fun r => !ownd fr k r
theorem outs_succ {fr k i : Nat} {l : List Int} {c : Int} (h : l[i]? = some c) : outs fr k (l.take (i + 1)) = outs fr k (l.take i) ++ (if ownd fr k c = true then [] else [c]) := by
 obtain ⟨hi, he⟩ := List.getElem?_eq_some_iff.1 h
 unfold outs
 rw [List.take_succ_eq_append_getElem hi, he, List.filter_append]
 congr 1
 by_cases e : ownd fr k c = true
 ·simp [e]
 ·simp [e]
theorem outs_len (fr k : Nat) (l : List Int) : (outs fr k l).length ≤ l.length := List.length_filter_le _ _
/-- what the first instructions read, each ahead of its own -/
def readK (fr : Nat) (xs : List Ix) : Nat → List Int
 | 0 => []
 | k + 1 => readK fr xs k ++ (match xs[k]? with | some x => outs fr k (LuM.seen x) | none => [])
def cutR (fr : Nat) (xs : List Ix) (en : Ex) : List Int := readK fr xs xs.length ++ outs fr xs.length (endsOf en)
theorem readK_succ {fr k : Nat} {xs : List Ix} {x : Ix} (h : xs[k]? = some x) : readK fr xs (k + 1) = readK fr xs k ++ outs fr k (LuM.seen x) := by
 show readK fr xs k ++ _ = _
 rw [h]
theorem seen_reads {r : Nat} {x : Ix} : (r : Int) ∈ LuM.seen x ↔ readsI r x = true := by
 unfold LuM.seen readsI
 by_cases e : x.op = 22
 ·simp [e]
 ·simp [e]
theorem outs_mem {fr k r : Nat} {l : List Int} : (r : Int) ∈ outs fr k l ↔ (r : Int) ∈ l ∧ ¬ (fr ≤ r ∧ r < fr + k) := by
 unfold outs
 rw [List.mem_filter, ← ownd_iff]
 cases ownd fr k (r : Int) <;> simp
theorem readK_mem {fr : Nat} {xs : List Ix} {r : Nat} : ∀ {k : Nat}, (r : Int) ∈ readK fr xs k ↔ ∃ i x, i < k ∧ xs[i]? = some x ∧ readsI r x = true ∧ ¬ (fr ≤ r ∧ r < fr + i)
 | 0 => by simp [readK]
 | k + 1 => by
  show (r : Int) ∈ readK fr xs k ++ _ ↔ _
  rw [List.mem_append, readK_mem (k := k)]
  constructor
  ·rintro (⟨i, x, h1, h2⟩ | h)
   ·exact ⟨i, x, by omega, h2⟩
   ·cases e : xs[k]? with
    | none => rw [e] at h; cases h
    | some x =>
     rw [e] at h
     obtain ⟨h1, h2⟩ := outs_mem.1 h
     exact ⟨k, x, by omega, e, seen_reads.1 h1, h2⟩
  ·rintro ⟨i, x, h1, h2, h3, h4⟩
   by_cases e : i = k
   ·subst e
    refine .inr ?_
    rw [h2]
    exact outs_mem.2 ⟨seen_reads.2 h3, h4⟩
   ·exact .inl ⟨i, x, by omega, h2, h3, h4⟩
section
variable {own : Nat → Nat → Nat} {r b : Nat} {en : Ex}
theorem within_true : ∀ (xs : List Ix) (k : Nat), within own r b en k xs = some true ↔ (∃ i x, xs[i]? = some x ∧ readsI r x = true ∧ ∀ j, j < i → own b (k + j) ≠ r) ∨ ((r : Int) ∈ endsOf en ∧ ∀ j, j < xs.length → own b (k + j) ≠ r)
 | [], k => by
  unfold within
  by_cases h : (r : Int) ∈ endsOf en <;> simp [h]
 | x :: xs, k => by
  unfold within
  by_cases h1 : readsI r x = true
  ·rw [if_pos h1]
   exact ⟨fun _ => .inl ⟨0, x, rfl, h1, by omega⟩, fun _ => rfl⟩
  ·rw [if_neg h1]
   by_cases h2 : own b k = r
   ·rw [if_pos h2]
    constructor
    ·intro h; cases h
    ·rintro (⟨i, y, hy, hr, hj⟩ | ⟨_, hj⟩)
     ·cases i with
      | zero => cases hy; exact absurd hr h1
      | succ i => exact absurd h2 (hj 0 (by omega))
     ·exact absurd h2 (hj 0 (by simp))
   ·rw [if_neg h2, within_true xs (k + 1)]
    constructor
    ·rintro (⟨i, y, hy, hr, hj⟩ | ⟨he, hj⟩)
     ·refine .inl ⟨i + 1, y, hy, hr, fun j h => ?_⟩
      cases j with
      | zero => exact h2
      | succ j => have := hj j (by omega); rwa [show k + 1 + j = k + (j + 1) by omega] at this
     ·refine .inr ⟨he, fun j h => ?_⟩
      cases j with
      | zero => exact h2
      | succ j => have := hj j (by simp at h; omega); rwa [show k + 1 + j = k + (j + 1) by omega] at this
    ·rintro (⟨i, y, hy, hr, hj⟩ | ⟨he, hj⟩)
     ·cases i with
      | zero => cases hy; exact absurd hr h1
      | succ i =>
       refine .inl ⟨i, y, hy, hr, fun j h => ?_⟩
       have := hj (j + 1) (by omega); rwa [show k + (j + 1) = k + 1 + j by omega] at this
     ·refine .inr ⟨he, fun j h => ?_⟩
      have := hj (j + 1) (by simp; omega); rwa [show k + (j + 1) = k + 1 + j by omega] at this
theorem within_none : ∀ (xs : List Ix) (k : Nat), within own r b en k xs = none ↔ within own r b en k xs ≠ some true ∧ ∀ j, j < xs.length → own b (k + j) ≠ r
 | [], k => by
  unfold within
  by_cases h : (r : Int) ∈ endsOf en <;> simp [h]
 | x :: xs, k => by
  unfold within
  by_cases h1 : readsI r x = true
  ·rw [if_pos h1]; simp
  ·rw [if_neg h1]
   by_cases h2 : own b k = r
   ·rw [if_pos h2]
    constructor
    ·intro h; cases h
    ·rintro ⟨_, h⟩; exact absurd h2 (h 0 (by simp))
   ·rw [if_neg h2, within_none xs (k + 1)]
    constructor
    ·rintro ⟨ha, hb⟩
     refine ⟨ha, fun j h => ?_⟩
     cases j with
     | zero => exact h2
     | succ j => have := hb j (by simp at h; omega); rwa [show k + 1 + j = k + (j + 1) by omega] at this
    ·rintro ⟨ha, hb⟩
     refine ⟨ha, fun j h => ?_⟩
     have := hb (j + 1) (by simp; omega); rwa [show k + (j + 1) = k + 1 + j by omega] at this
/-- a block's cut reads a register just if it is read, ahead of its own instruction -/
theorem cut_true {fr k : Nat} {xs : List Ix} (h : ∀ j, j < xs.length → own b (k + j) = fr + j) : (r : Int) ∈ cutR fr xs en ↔ within own r b en k xs = some true := by
 have hj : ∀ n, n ≤ xs.length → ((∀ j, j < n → own b (k + j) ≠ r) ↔ ¬ (fr ≤ r ∧ r < fr + n)) := by
  intro n hn
  constructor
  ·rintro ha ⟨h1, h2⟩
   exact ha (r - fr) (by omega) (by rw [h _ (by omega)]; omega)
  ·intro ha j hj e
   rw [h j (by omega)] at e
   exact ha ⟨by omega, by omega⟩
 unfold cutR
 rw [List.mem_append, readK_mem, outs_mem, within_true]
 constructor
 ·rintro (⟨i, x, h1, h2, h3, h4⟩ | ⟨h1, h2⟩)
  ·exact .inl ⟨i, x, h2, h3, (hj i (by omega)).2 h4⟩
  ·exact .inr ⟨h1, (hj _ (Nat.le_refl _)).2 h2⟩
 ·rintro (⟨i, x, h2, h3, h4⟩ | ⟨h1, h2⟩)
  ·have := (List.getElem?_eq_some_iff.1 h2).1
   exact .inl ⟨i, x, this, h2, h3, (hj i (by omega)).1 h4⟩
  ·exact .inr ⟨h1, (hj _ (Nat.le_refl _)).1 h2⟩
theorem cut_none {fr k : Nat} {xs : List Ix} (h : ∀ j, j < xs.length → own b (k + j) = fr + j) : within own r b en k xs = none ↔ ¬ (r : Int) ∈ cutR fr xs en ∧ ownd fr xs.length (r : Int) = false := by
 rw [within_none, cut_true h]
 refine and_congr_right fun _ => ?_
 rw [← Bool.not_eq_true, ownd_iff]
 constructor
 ·rintro ha ⟨h1, h2⟩
  exact ha (r - fr) (by omega) (by rw [h _ (by omega)]; omega)
 ·intro ha j hj e
  rw [h j hj] at e
  exact ha ⟨by omega, by omega⟩
end
/-- a block's first register -/
def frB (par : Nat) (l : List Bx) (b : Nat) : Nat := par + manyB (l.take b)
theorem own_fr (par : Nat) (l : List Bx) (b pl : Nat) (n : Nat) : ∀ j, j < n → ownN par l b (pl + j) = (frB par l b + pl) + j := by
 intro j _
 unfold ownN frB
 omega
/-- what a block reads, each ahead of its own instruction -/
def rdB (par : Nat) (l : List Bx) (b : Nat) : List Int := cutR (frB par l b) (insAt l b) (endAt l b)
theorem win_true {par : Nat} {l : List Bx} {b r : Nat} : (r : Int) ∈ rdB par l b ↔ win l (ownN par l) r b = some true := by
 unfold rdB win
 refine cut_true fun j hj => ?_
 have := own_fr par l b 0 _ j hj
 simpa using this
theorem win_none {par : Nat} {l : List Bx} {b r : Nat} : win l (ownN par l) r b = none ↔ ¬ (r : Int) ∈ rdB par l b ∧ ownd (frB par l b) (insAt l b).length (r : Int) = false := by
 unfold rdB win
 refine cut_none fun j hj => ?_
 have := own_fr par l b 0 _ j hj
 simpa using this
/-- what lives at a place, by a cut -/
theorem livB_cut (par : Nat) (l : List Bx) (b pl r : Nat) : livB par l b pl r = (decide ((r : Int) ∈ cutR (frB par l b + pl) ((insAt l b).drop pl) (endAt l b)) || (!ownd (frB par l b + pl) ((insAt l b).drop pl).length (r : Int) && endB par l b r)) := by
 have h1 := cut_true (r := r) (b := b) (en := endAt l b) (own_fr par l b pl ((insAt l b).drop pl).length)
 have h2 := cut_none (r := r) (b := b) (en := endAt l b) (own_fr par l b pl ((insAt l b).drop pl).length)
 unfold livB
 cases e : within (ownN par l) r b (endAt l b) pl ((insAt l b).drop pl) with
 | none =>
  obtain ⟨h3, h4⟩ := h2.1 e
  rw [h4, decide_eq_false h3]
  simp
 | some t =>
  cases t with
  | true => rw [decide_eq_true (h1.2 e)]; simp
  | false =>
   have h3 : ¬ (r : Int) ∈ cutR (frB par l b + pl) ((insAt l b).drop pl) (endAt l b) := fun h => by rw [h1.1 h] at e; cases e
   have h4 : ownd (frB par l b + pl) ((insAt l b).drop pl).length (r : Int) = true := by
    cases h5 : ownd (frB par l b + pl) ((insAt l b).drop pl).length (r : Int) with
    | true => rfl
    | false => rw [h2.2 ⟨h3, h5⟩] at e; cases e
   rw [decide_eq_false h3, h4]
   simp
/-! phis -/
def phL (b : Nat) (l : List Bx) (js : List Nat) : List Int := js.flatMap fun j => insL b (insAt l j)
theorem phL_mem {b r : Nat} {l : List Bx} {js : List Nat} : (r : Int) ∈ phL b l js ↔ ∃ j ∈ js, byPhi l r b j = true := by
 unfold phL
 rw [List.mem_flatMap]
 constructor
 ·rintro ⟨j, hj, h⟩; exact ⟨j, hj, insL_mem.1 h⟩
 ·rintro ⟨j, hj, h⟩; exact ⟨j, hj, insL_mem.2 h⟩
theorem phL_succ {b i j : Nat} {l : List Bx} {js : List Nat} (h : js[i]? = some j) : phL b l (js.take (i + 1)) = phL b l (js.take i) ++ insL b (insAt l j) := by
 obtain ⟨hi, he⟩ := List.getElem?_eq_some_iff.1 h
 unfold phL
 rw [List.take_succ_eq_append_getElem hi, he, List.flatMap_append]
 simp
theorem phL_few {N : Nat} {l : List Bx} (h : Regs N l) {b : Nat} {js : List Nat} (hj : ∀ j ∈ js, j < l.length) (h2 : js.length ≤ 2) (i : Nat) : (phL b l (js.take i)).length ≤ 4096 := by
 have key : ∀ (js : List Nat), (∀ j ∈ js, j < l.length) → (phL b l js).length ≤ 2048 * js.length := by
  intro js
  induction js with
  | nil => intro _; simp [phL]
  | cons j js ih =>
   intro hj
   have h1 := ih fun i hi => hj i (List.mem_cons_of_mem _ hi)
   have h3 := insL_few (b := b) h (hj j List.mem_cons_self) (insAt l j).length
   rw [List.take_length] at h3
   unfold phL at h1 ⊢
   rw [List.flatMap_cons, List.length_append, List.length_cons]
   omega
 have h1 := key (js.take i) fun j h => hj j (List.mem_of_mem_take h)
 have h3 : (js.take i).length ≤ 2 := by rw [List.length_take]; omega
 omega
/-! the search -/
section
variable {l : List Bx} {own : Nat → Nat → Nat} {r b : Nat}
/-- what is known of those looked at: there it is not read, and where ways go on is begun -/
def Done (l : List Bx) (own : Nat → Nat → Nat) (r : Nat) (G : List Nat) (k : Nat) : Prop := hitB l own r k = false ∧ ∀ j ∈ passT l own r k, j ∈ G
/-- what are to be looked at, and what are begun -/
structure Srch (l : List Bx) (own : Nat → Nat → Nat) (r b : Nat) (A G : List Nat) : Prop where
 home : b < l.length
 come : ∀ k, k ∈ A ∨ k ∈ G → FwM.Comes (passT l own r) b k
 rest : ∀ k, k = b ∨ k ∈ G → k ∈ A ∨ Done l own r G k
 one : A.Nodup
 each : G.Nodup
 sub : A = [b] ∧ G = [] ∨ ∀ k ∈ A, k ∈ G
theorem srch_start (h : b < l.length) : Srch l own r b [b] [] := by
 refine ⟨h, fun k hk => ?_, fun k hk => ?_, by simp, by simp, .inl ⟨rfl, rfl⟩⟩
 ·rcases hk with h | h
  ·rw [List.mem_singleton.1 h]; exact .here
  ·cases h
 ·rcases hk with rfl | h
  ·exact .inl (by simp)
  ·cases h
/-- nothing is left: there is no way -/
theorem Srch.none {G : List Nat} (h : Srch l own r b [] G) : ¬ Lv l own r b ((insAt l b).length + 1) := by
 rw [ways_iff]
 rintro ⟨c, hc, hh⟩
 have key : ∀ {c}, FwM.Comes (passT l own r) b c → c = b ∨ c ∈ G := by
  intro c hc
  induction hc with
  | here => exact .inl rfl
  | step _ hm ih =>
   rcases h.rest _ ih with e | e
   ·cases e
   ·exact .inr (e.2 _ hm)
 rcases h.rest c (key hc) with e | e
 ·cases e
 ·rw [e.1] at hh; cases hh
theorem Srch.some {A G : List Nat} (h : Srch l own r b A G) {k : Nat} (hk : k ∈ A) (hh : hitB l own r k = true) : Lv l own r b ((insAt l b).length + 1) := (ways_iff b).2 ⟨k, h.come k (.inl hk), hh⟩
/-- k is looked at -/
theorem Srch.step {A G new : List Nat} (h : Srch l own r b A G) {k : Nat} (hk : k ∈ A) (hh : hitB l own r k = false) (hn : (G ++ new).Nodup) (hp : ∀ j ∈ new, j ∈ passT l own r k) (ha : ∀ j ∈ passT l own r k, j ∈ G ++ new) : Srch l own r b (A.erase k ++ new) (G ++ new) := by
 have hsub : ∀ j ∈ A.erase k, j ∈ G := by
  intro j hj
  rcases h.sub with ⟨rfl, _⟩ | e
  ·have := List.mem_singleton.1 hk
   subst this
   simp at hj
  ·exact e j (List.mem_of_mem_erase hj)
 obtain ⟨n1, n2, n3⟩ := List.nodup_append.1 hn
 refine ⟨h.home, fun j hj => ?_, fun j hj => ?_, ?_, hn, .inr fun j hj => ?_⟩
 ·have hnew : j ∈ new → FwM.Comes (passT l own r) b j := fun e => (h.come k (.inl hk)).step (hp j e)
  rcases hj with e | e
  ·rcases List.mem_append.1 e with e | e
   ·exact h.come j (.inl (List.mem_of_mem_erase e))
   ·exact hnew e
  ·rcases List.mem_append.1 e with e | e
   ·exact h.come j (.inr e)
   ·exact hnew e
 ·by_cases ek : j = k
  ·exact .inr ⟨ek ▸ hh, ek ▸ ha⟩
  ·have old : j = b ∨ j ∈ G → j ∈ A.erase k ++ new ∨ Done l own r (G ++ new) j := fun e => by
    rcases h.rest j e with e | e
    ·exact .inl (List.mem_append.2 (.inl ((List.mem_erase_of_ne ek).2 e)))
    ·exact .inr ⟨e.1, fun i hi => List.mem_append.2 (.inl (e.2 i hi))⟩
   rcases hj with e | e
   ·exact old (.inl e)
   ·rcases List.mem_append.1 e with e | e
    ·exact old (.inr e)
    ·exact .inl (List.mem_append.2 (.inr e))
 ·exact List.nodup_append.2 ⟨h.one.erase k, n2, fun x hx y hy => n3 x (hsub x hx) y hy⟩
 ·rcases List.mem_append.1 hj with e | e
  ·exact List.mem_append.2 (.inl (hsub j e))
  ·exact List.mem_append.2 (.inr e)
theorem Srch.lt (hlow : Low l) {A G : List Nat} (h : Srch l own r b A G) {k : Nat} (hk : k ∈ A ∨ k ∈ G) : k < l.length := (h.come k hk).lt (pass_lt hlow) h.home
end
end Go.Proofs.YtpejpnffcepdlaaGreatDoor.LiM
namespace Go.Proofs.YtpejpnffcepdlaaGreatDoor.LiA
open Go.RowKit Go.Lib SetP SetO SetNum SetIn SetWith SetT SetW2 SetF SetC BitOfP BitOf BitHas ShP Aft FwQ FwR LiM

/-- registers' numbers are small -/
def Lows (l : List Int) : Prop := ∀ n ∈ l, 0 ≤ n ∧ n < 1048576
theorem of_ok (l : List Int) : ∀ x ∈ ofS l, WdOk x := fun x hx => by
 obtain ⟨a, b, c, d⟩ := (of_may l).1 x hx
 exact ⟨by omega, by omega, by omega, d⟩
theorem of_has {l : List Int} (h : Lows l) {r : Int} (h0 : 0 ≤ r) (h1 : r < 1048576) : hasB (ofS l) r = decide (r ∈ l) := by
 have e : ofS l = withAll [] l := if_pos (okL_iff.2 h)
 unfold hasB hasS
 rw [if_pos (of_may l), if_pos ⟨h0, h1⟩, e]
 show inS (withAll [] l) r = _
 rw [inS_all l mayw_nil h r h0]
 rfl
theorem of_len (l : List Int) : (ofS l).length ≤ 16384 := may_length (of_may l)
/-- a set in new memory -/
def NewSt (B : Nat) (w : World) (v : Value) (s : List Wd) : Prop := w.ownsRow B 252 2 v s.length (wdVals s)
theorem newSt_of {w : World} {B n : Nat} {v : Value} {s : List Wd} (h : w.ownsRow B 252 2 v n (wdVals s)) : NewSt B w v s := by
 obtain rfl : n = s.length := by have := h.1; rw [wdVals_length] at this; omega
 exact h
theorem NewSt.at {w : World} {B : Nat} {v : Value} {l : List Int} (h : NewSt B w v (ofS l)) : SetAt w v (ofS l) := setAt_of_owns h (by have := of_len l; omega)
theorem SetAt.slice {w : World} {v : Value} {s : List Wd} (h : SetAt w v s) : ∃ ao c, v = .slice ao s.length c := by
 obtain ⟨ao, c, rfl, _⟩ := h
 exact ⟨ao, c, rfl⟩

/-- has -/
theorem has_c (v : Value) (l : List Int) (hl : Lows l) (r : Int) (h0 : 0 ≤ r) (h1 : r < 1048576) (w : World) (hs : SetAt w v (ofS l)) :
  Calls Tryz.prog 91 #[v, .int .i64 r] w fun e w' => e = .returned (.bool (decide (r ∈ l))) ∧ Below w.heap.size w w' := by
 have HC := hid (has_calls v (ofS l) r w hs (of_ok l))
 rw [of_has hl h0 h1] at HC
 obtain ⟨ao, c, rfl⟩ := SetAt.slice hs
 clear hs
 generalize hasE (ofS l) r = er at *
 generalize decide (r ∈ l) = b at *
 generalize (ofS l).length = n at *
 go_enter Tryz.func91, Tryz.ntmps91
 go_wp2_with fail
 refine HC.out.mono ?_
 rintro e w1 ⟨rfl, hb1⟩
 go_wp2
 go_ret
 exact ⟨rfl, hb1⟩
/-- set -/
theorem set_c (v : Value) (l : List Int) (w : World) (hl : IntsAt w v l) :
  Calls Tryz.prog 90 #[v] w fun e w' => ∃ u, e = .returned u ∧ NewSt w.heap.size w' u (ofS l) ∧ Below w.heap.size w w' := by
 have HC := hid (of_calls v l w hl)
 obtain ⟨ao, c, rfl, _⟩ := hl
 generalize ofE l = er at *
 generalize ofS l = s at *
 go_enter Tryz.func90, Tryz.ntmps90
 go_wp2_with fail
 refine HC.out.mono ?_
 rintro e w1 ⟨u, m, rfl, ho, hb1⟩
 have HN := hid (newSt_of ho)
 obtain ⟨ua, uc, rfl⟩ := RwO.own_form HN.out
 clear ho
 go_wp2
 go_ret
 exact ⟨_, rfl, HN.out, hb1⟩
/-- reads -/
theorem reads_c (v : Value) (l : List Int) (hl : Lows l) (fr th r : Int) (h0 : 0 ≤ r) (h1 : r < 1048576) (w : World) (hs : SetAt w v (ofS l)) :
  Calls Tryz.prog 51 #[.agg #[v, .int .i64 fr, .int .i64 th], .int .i64 r] w fun e w' => e = .returned (.bool (decide (r ∈ l))) ∧ Below w.heap.size w w' := by
 obtain ⟨ao, c, rfl⟩ := SetAt.slice hs
 have hb0 := alloc_below w (.cells #[.slice ao (ofS l).length c, .int .i64 fr, .int .i64 th] 97)
 have HC := hid (has_c _ l hl r h0 h1 _ (hs.below hb0))
 clear hs
 generalize decide (r ∈ l) = b at *
 generalize (ofS l).length = n at *
 go_enter Tryz.func51, Tryz.ntmps51
 go_wp2_with fail
 refine HC.out.mono ?_
 rintro e w1 ⟨rfl, hb1⟩
 have HB := hid (hb0.trans (hb1.mono hb0.size))
 clear hb0 hb1 HC
 go_wp2
 go_ret
 exact ⟨rfl, HB.out⟩
/-- owns -/
theorem owns_c (ao : Option Addr) (n c : Nat) (fr th r : Int) (w : World) :
  Calls Tryz.prog 52 #[.agg #[.slice ao n c, .int .i64 fr, .int .i64 th], .int .i64 r] w fun e w' => e = .returned (.bool (decide (fr ≤ r ∧ r < th))) ∧ w' = w.alloc (.cells #[.slice ao n c, .int .i64 fr, .int .i64 th] 97) := by
 by_cases h1 : fr ≤ r
 ·by_cases h2 : r < th
  ·have HE : Hid (Ending.returned (Value.bool true) = Ending.returned (Value.bool (decide (fr ≤ r ∧ r < th)))) := by show _ = _; rw [decide_eq_true ⟨h1, h2⟩]
   generalize decide (fr ≤ r ∧ r < th) = q at *
   go_enter Tryz.func52, Tryz.ntmps52
   go_wp2
   go_ret
   exact ⟨HE.out, rfl⟩
  ·have HE : Hid (Ending.returned (Value.bool false) = Ending.returned (Value.bool (decide (fr ≤ r ∧ r < th)))) := by show _ = _; rw [decide_eq_false (fun e => h2 e.2)]
   generalize decide (fr ≤ r ∧ r < th) = q at *
   go_enter Tryz.func52, Tryz.ntmps52
   go_wp2
   go_ret
   exact ⟨HE.out, rfl⟩
 ·have HE : Hid (Ending.returned (Value.bool false) = Ending.returned (Value.bool (decide (fr ≤ r ∧ r < th)))) := by show _ = _; rw [decide_eq_false (fun e => h1 e.1)]
  generalize decide (fr ≤ r ∧ r < th) = q at *
  go_enter Tryz.func52, Tryz.ntmps52
  go_wp2
  go_ret
  exact ⟨HE.out, rfl⟩
end Go.Proofs.YtpejpnffcepdlaaGreatDoor.LiA
namespace Go.Proofs.YtpejpnffcepdlaaGreatDoor.LiB
open Go.RowKit Go.Lib SetP IntO TyM TyP TyB ShM ShP Aft Fresh FwQ FwR FwO LuM LiM LiA

/-- what cut keeps: where it is, and what is read so far -/
structure CutSt (w0 : World) (Bc Bl fr k : Nat) (v : Value) (L : List Int) (w : World) : Prop where
 box : w.heap[Bc]? = some (.cells #[.slice none 0 0, .int .i64 ((fr : Nat) : Int), .int .i64 ((fr + k : Nat) : Int)] 97 (0, 0))
 lst : Boxed w Bl 29 v
 row : ∃ m, w.ownsRow w0.heap.size 3 1 v m (intVals L)
 bel : Below w0.heap.size w0 w
 old : w0.heap.size ≤ Bl
 old2 : w0.heap.size ≤ Bc
section
variable {w0 w : World} {Bc Bl fr k : Nat} {v : Value} {L : List Int}
theorem CutSt.go (h : CutSt w0 Bc Bl fr k v L w) {w' : World} (hb : Below w.heap.size w w') : CutSt w0 Bc Bl fr k v L w' := by
 obtain ⟨m, hm⟩ := h.row
 exact ⟨(hb.block Bc (Array.getElem?_eq_some_iff.1 h.box).1).trans h.box, (hb.block Bl h.lst.lt).trans h.lst, ⟨m, ownsRow_below hm hb⟩, h.bel.trans (hb.mono h.bel.size), h.old, h.old2⟩
theorem CutSt.away (h : CutSt w0 Bc Bl fr k v L w) {w1 : World} {lv : Value} {l : List Int} (hl : NewI w.heap.size w1 lv l) : Away Bl v w1 lv := by
 intro g off n c e hn
 have h1 := hl.2 g off n c e
 obtain ⟨ao, cap, hv, _, hm, _⟩ := hl.1
 rw [hv] at e
 cases e
 obtain ⟨b, o, hb, hlt, _⟩ := hm hn
 cases hb
 refine ⟨hlt, ?_, fun e => ?_⟩
 ·have := h.lst.lt; omega
 ·obtain ⟨m, hm⟩ := h.row
  have := (hm.lt g e).2
  omega
theorem CutSt.ne (h : CutSt w0 Bc Bl fr k v L w) : Bc ≠ Bl := by
 intro e
 have h1 := h.box
 have h2 : w.heap[Bl]? = _ := h.lst
 rw [e, h2] at h1
 cases h1
theorem CutSt.cells (h : CutSt w0 Bc Bl fr k v L w) : w.cell? ⟨Bc, 0, none⟩ = some (.slice none 0 0) ∧ w.cell? ⟨Bc, 1, none⟩ = some (.int .i64 ((fr : Nat) : Int)) ∧ w.cell? ⟨Bc, 2, none⟩ = some (.int .i64 ((fr + k : Nat) : Int)) := by
 refine ⟨?_, ?_, ?_⟩
 all_goals (unfold World.cell?; rw [h.box]; simp)
theorem row_box {W : World} {g m : Nat} {u : Value} {xs : List Value} (h : W.ownsRow m 3 1 u g xs) {b : Nat} {cs : Array Value} {T : TypeId} {x : Nat × Nat} (hb : W.heap[b]? = some (.cells cs T x)) (hT : T ≠ 3) : u.ownBlock ≠ some b := by
 intro e
 rcases h.2 with ⟨rfl, _⟩ | ⟨g', cap, cur, rfl, _, hg, _⟩
 ·cases e
 ·have : g' = b := by simpa [Value.ownBlock] using e
  subst this
  rw [hb] at hg
  cases hg
  exact hT rfl
end
/-- the closure has been run -/
def CutR (w0 : World) (Bc Bl fr k : Nat) (L : List Int) (e : Ending) (w' : World) : Prop := e = .returned (.tuple #[]) ∧ ∃ v', CutSt w0 Bc Bl fr k v' L w'

set_option maxRecDepth 100000 in
set_option maxHeartbeats 8000000 in
theorem cut1_c (w0 : World) (Bc Bl fr k : Nat) (v : Value) (L : List Int) (w : World) (hst : CutSt w0 Bc Bl fr k v L w) (lv : Value) (xs : List Int) (hl : IntsAt w lv xs) (ha : Away Bl v w lv) (hxs : xs.length ≤ 1000) (hL : L.length ≤ 90000) :
  Calls Tryz.prog 87 #[lv, .pointer (some ⟨Bc, 0, none⟩), .pointer (some ⟨Bl, 0, none⟩)] w (CutR w0 Bc Bl fr k (L ++ outs fr k xs)) := by
 obtain ⟨i0, hi, hz0, hz1, hz2⟩ := info_parts info_int
 obtain ⟨la, lc, rfl, _⟩ := ints_slice hl
 have HST := hid hst
 have HL := hid hl
 have HA := hid ha
 have HXS := hid hxs
 have HLL := hid hL
 have HZ : Hid (L ++ outs fr k (xs.take 0) = L) := by show _ = _; simp [outs]
 have HE : Hid (L ++ outs fr k (xs.take xs.length) = L ++ outs fr k xs) := by show _ = _; rw [List.take_length]
 have HS := hid (fun (i : Nat) (c : Int) (h : xs[i]? = some c) => outs_succ (fr := fr) (k := k) h)
 have HO := hid (fun (i : Nat) => outs_len fr k (xs.take i))
 clear hst hl ha hxs hL
 go_enter Tryz.func87, Tryz.ntmps87
 go_wp2_with fail
 go_loopg [8] xs.length (fun gk i wr => ∃ (j : Nat) (v1 : Value), j + gk = xs.length ∧ i = .int .i64 j ∧ CutSt w0 Bc Bl fr k v1 (L ++ outs fr k (xs.take j)) wr ∧ IntsAt wr (.slice la xs.length lc) xs ∧ Away Bl v1 wr (.slice la xs.length lc))
 case atStart => exact ⟨0, v, by omega, rfl, HZ.out.symm ▸ HST.out, HL.out, HA.out⟩
 case round =>
  obtain ⟨j, v1, hj, rfl, hst, hl, ha⟩ := hrel
  have HJ := hid hj
  have HST1 := hid hst
  have HL1 := hid hl
  have HA1 := hid ha
  clear HST HL HA hj
  by_cases hlt : j < xs.length
  ·have HLT := hid hlt
   obtain ⟨c, hc⟩ := IntG.some_at hlt
   obtain ⟨b2, o2, rfl, c2⟩ := IntG.int_at hl hc
   have HSC := hid (HS.out j c hc)
   have HOJ : Hid ((outs fr k (xs.take j)).length ≤ 1000) := by
    have h1 := HO.out j
    have h2 : (xs.take j).length ≤ j := by rw [List.length_take]; omega
    have h3 := HXS.out
    show _ ≤ _
    omega
   have hjx : (j : Int) < (xs.length : Int) := by omega
   have hjb : j ≤ 9223372036854775806 := by have := HXS.out; omega
   obtain ⟨q0, q1, q2⟩ := hst.cells
   have hb1 := alloc_below wr (.cells #[.slice none 0 0, .int .i64 ((fr : Nat) : Int), .int .i64 ((fr + k : Nat) : Int)] 97)
   have HOW := hid (owns_c none 0 0 ((fr : Nat) : Int) ((fr + k : Nat) : Int) c wr)
   have HOD : Hid (decide (((fr : Nat) : Int) ≤ c ∧ c < ((fr + k : Nat) : Int)) = ownd fr k c) := rfl
   rw [HOD.out] at HOW
   have HB1 := hid hb1
   clear hst hl ha hc HS HO hb1 HOD hlt
   generalize ((fr + k : Nat) : Int) = fk at *
   generalize outs fr k (xs.take j) = O1 at *
   generalize hob : ownd fr k c = ob at *
   generalize xs.length = n at *
   go_wp2_with fail
   refine HOW.out.mono ?_
   rintro e w1 ⟨rfl, hw1⟩
   rw [← hw1] at HB1
   have hst1 := HST1.out.go HB1.out
   have hl1 := HL1.out.below HB1.out
   have HK1 := hid (Keeps2.below (bl := Bl) (u := v1) HB1.out)
   have ha1 := HA1.out.keeps HK1.out (NewRow.refl _ _)
   clear HOW hw1 q0 q1 q2 c2 HST1 HL1 HA1 HB1 HK1
   obtain ⟨m, hm⟩ := hst1.row
   have hsz := hst1.bel.size
   have HST := hid hst1
   have HL := hid hl1
   have HA := hid ha1
   have hbx := hst1.lst.cell
   cases ob with
   | true =>
    rw [if_pos rfl, List.append_nil] at HSC
    clear hst1 hl1 ha1 hm
    go_wp2
    go_roundg (gk - 1)
    case measure => have := HJ.out; have := HLT.out; omega
    case rel => exact ⟨j + 1, v1, by have := HJ.out; have := HLT.out; omega, by go_num, by rw [HSC.out]; exact HST.out, HL.out, HA.out⟩
   | false =>
    rw [if_neg (by decide)] at HSC
    have hml : m ≤ 95000 := by
     have h1 := hm.1
     rw [intVals_length, List.length_append] at h1
     have h2 := HLL.out
     have h3 := HOJ.out
     omega
    clear hl1 ha1
    go_wp2_with (at_builtin; refine wpList_append_fresh _ rfl _ _ 29 rfl w0.heap.size 3 i0 (.int .i64 0) 1 8 Tryz.underlying29 hi hz0 hz1 hz2 rfl (by decide) v1 m (intVals (L ++ O1)) rfl (hm.alloc _) ⟨w1.heap.size, 0, none⟩ 1 1 [.int .i64 c] rfl rfl (cell_one_new _ _ _) (by simp [Value.oneCell']) (by unfold maxLen; omega) (by omega) (by simp; omega) ?_)
    intro v' w2 hown' hgrow hnew
    obtain ⟨g', cap', rfl⟩ := ownsRow_succ hown'
    obtain ⟨hv1, hv2, hr2, _, hb2⟩ := hst1.lst.appended (by decide) hm hsz hst1.old hown' hgrow
    have hcv := hv1.cell
    have hfv := hv1.frozen
    have K2 := Keeps2.append (bl := Bl) (v' := .slice (some ⟨g', 0, none⟩) (m + 1) cap') hgrow
    have HSN : Hid (CutSt w0 Bc Bl fr k (.slice (some ⟨g', 0, none⟩) (m + 1) cap') (L ++ outs fr k (xs.take (j + 1))) (w2.setCell ⟨Bl, 0, none⟩ (.slice (some ⟨g', 0, none⟩) (m + 1) cap'))) := by
     refine ⟨(K2.2 Bc (Array.getElem?_eq_some_iff.1 hst1.box).1 hst1.ne (row_box hm hst1.box (by decide))).trans hst1.box, hv2, ⟨m + 1, ?_⟩, hst1.bel.trans hb2, hst1.old, hst1.old2⟩
     rw [HSC.out, ← List.append_assoc, intVals_append]
     exact hr2
    have HN := hid (NewRow.alloc hnew)
    have HLN := hid (HA.out.ints K2 HL.out)
    have HAN := hid (HA.out.keeps K2 HN.out)
    clear hst1 hm hbx hown' hgrow hnew hv1 hv2 hr2 hb2 K2 HST HL HA
    go_wp2
    go_roundg (gk - 1)
    case measure => have := HJ.out; have := HLT.out; omega
    case rel => exact ⟨j + 1, _, by have := HJ.out; have := HLT.out; omega, by go_num, HSN.out, HLN.out, HAN.out⟩
  ·obtain rfl : j = xs.length := by have := HJ.out; omega
   rw [HE.out] at HST1
   clear hst hl ha hlt
   go_wp2
   go_end0
   exact ⟨rfl, v1, HST1.out⟩
end Go.Proofs.YtpejpnffcepdlaaGreatDoor.LiB
namespace Go.Proofs.YtpejpnffcepdlaaGreatDoor.LiC
open Go.RowKit Go.Lib SetP IntO TyM TyP TyB TyD ShM ShP ShA ShU ShW Aft Fresh BitOf FwQ FwR FwO IntG BlkG LgX LiM LiA LiB

/-- a row from a place on -/
theorem sizeIx (w : World) : (sizeOf (Tryz.prog.elem 36)).run Tryz.prog w = .ok 7 w := by kernel_rfl
theorem ins_drop {w : World} {ao : Option Addr} {n cap : Nat} {xs : List Ix} (h : InsAt w (.slice ao n cap) xs) {k : Nat} (hk : k ≤ xs.length) : ∃ v, InsAt w v (xs.drop k) ∧ (∀ wx : World, (Instr.slice 36 (.slice ao n cap) (some (.int .i64 (k : Int))) none none).run Tryz.prog wx = .ok v wx) := by
 obtain ⟨ao2, cap2, he, hl, hm, hz, hc⟩ := h
 cases he
 refine ⟨sliced ao k xs.length cap 7, ?_, fun wx => ?_⟩
 ·unfold sliced
  have hlen : (xs.drop k).length = xs.length - k := List.length_drop
  by_cases e : cap = k
  ·rw [if_pos e]
   refine ⟨ao, cap - k, by rw [hlen], by omega, fun h0 => by omega, fun h0 => by have := hz h0; omega, by omega⟩
  ·rw [if_neg e]
   refine ⟨ao.map (·.add (k * 7)), cap - k, by rw [hlen], by omega, fun h0 => ?_, fun h0 => ?_, by omega⟩
   ·obtain ⟨b, off, rfl, hlt, hcell⟩ := hm (by omega)
    refine ⟨b, off + k * 7, by simp [Addr.add], hlt, fun i hi => ?_⟩
    have h1 := hcell (k + i) (by omega)
    rw [List.getElem_drop, show off + k * 7 + i * 7 = off + (k + i) * 7 by omega]
    exact h1
   ·cases ao with
    | none => have := hz rfl; omega
    | some a => cases h0
 ·rw [run_slice_l (P := Tryz.prog) (w := wx) 36 ao xs.length cap (by kernel_rfl) .i64 (k : Int) (by omega) (by omega), sizeIx]
  rfl
theorem newSt_set {B b i : Nat} {w : World} {v u : Value} {s : List Wd} (h : NewSt B w v s) (hb : b < B) : NewSt B (w.setCell ⟨b, i, none⟩ u) v s := owns_set h hb
theorem newSt_base {B B2 : Nat} {w : World} {v : Value} {s : List Wd} (h : NewSt B w v s) (hb : B2 ≤ B) : NewSt B2 w v s := owns_base h hb
/-- the next instruction -/
theorem CutSt.next {w0 w : World} {Bc Bl fr k : Nat} {v : Value} {L : List Int} (h : CutSt w0 Bc Bl fr k v L w) : CutSt w0 Bc Bl fr (k + 1) v L (w.setCell ⟨Bc, 2, none⟩ (.int .i64 ((fr + (k + 1) : Nat) : Int))) := by
 obtain ⟨m, hm⟩ := h.row
 refine ⟨?_, (Below.heap_setCell w ⟨Bc, 2, none⟩ _ Bl (fun e => h.ne e.symm)).trans h.lst, ⟨m, hm.kept (row := some Bc) ⟨rfl, rfl, rfl, by rw [TyD.size_set]; exact Nat.le_refl _, fun j _ hj => Below.heap_setCell w ⟨Bc, 2, none⟩ _ j (fun e => hj (by rw [e]))⟩ (.inr (row_box hm h.box (by decide)))⟩, h.bel.setCell (p := ⟨Bc, 2, none⟩) h.old2 _, h.old, h.old2⟩
 have := TyD.set_heap (i := 2) (.int .i64 ((fr + (k + 1) : Nat) : Int)) h.box
 simpa using this
theorem seen_len {x : Ix} (h : x.args.length ≤ 16) : (LuM.seen x).length ≤ 20 := by
 unfold LuM.seen
 split
 ·simp
 ·exact uses_len h
theorem readK_len {fr : Nat} {xs : List Ix} (h : ∀ x ∈ xs, x.args.length ≤ 16) : ∀ (k : Nat), (readK fr xs k).length ≤ 20 * k
 | 0 => by simp [readK]
 | k + 1 => by
  have h1 := readK_len h k (fr := fr)
  show (readK fr xs k ++ _).length ≤ _
  rw [List.length_append]
  cases e : xs[k]? with
  | none => simp; omega
  | some x =>
   have h2 := outs_len fr k (LuM.seen x)
   have h3 := seen_len (h x (List.mem_of_getElem? e))
   show _ + (outs fr k (LuM.seen x)).length ≤ _
   omega
theorem set3_world (w : World) (b : Nat) (t : TypeId) (x0 x1 x2 : Value) (u0 u1 u2 : Value) (h : w.heap[b]? = some (.cells #[x0, x1, x2] t (0, 0))) :
  ∃ W3, W3 = (((w.setCell ⟨b, 0, none⟩ u0).setCell ⟨b, 1, none⟩ u1).setCell ⟨b, 2, none⟩ u2) ∧ W3.heap[b]? = some (.cells #[u0, u1, u2] t (0, 0)) ∧ ∀ B a, Below B a w → B ≤ b → Below B a W3 :=
 ⟨_, rfl, (TyD.set_heap (i := 2) u2 (TyD.set_heap (i := 1) u1 (TyD.set_heap (i := 0) u0 h))).trans (by simp), fun B a hb hB => (((hb.setCell (p := ⟨b, 0, none⟩) hB u0).setCell (p := ⟨b, 1, none⟩) hB u1).setCell (p := ⟨b, 2, none⟩) hB u2)⟩
theorem partUnder : Tryz.prog.underlying 97 = some (.struct (Tryz.prog.fieldsOf 97)) := by kernel_rfl
theorem partSize : (Tryz.prog.info? 97).map (·.size) = some 3 := by kernel_rfl
/-- a block's part -/
def PartR (w : World) (fr n : Nat) (L : List Int) (e : Ending) (w' : World) : Prop := ∃ u, e = .returned (.agg #[u, .int .i64 ((fr : Nat) : Int), .int .i64 ((fr + n : Nat) : Int)]) ∧ NewSt w.heap.size w' u (ofS L) ∧ Below w.heap.size w w'

set_option maxRecDepth 100000 in
set_option maxHeartbeats 8000000 in
theorem cut_c (x : Bx) (vi : Value) (first pl : Nat) (w : World) (hins : InsAt w vi x.ins) (ht : Tab w) (hpl : pl ≤ x.ins.length) (hl : x.ins.length ≤ 128) (hio : ∀ y ∈ x.ins, (0 ≤ y.op ∧ y.op ≤ 255) ∧ y.args.length ≤ 16) (hen : 0 ≤ x.en.kind ∧ x.en.kind ≤ 255) (hf : first ≤ 100000) :
  Calls Tryz.prog 48 #[bxV x vi, .int .i64 (first : Int), .int .i64 (pl : Int)] w (PartR w (first + pl) (x.ins.drop pl).length (cutR (first + pl) (x.ins.drop pl) x.en)) := by
 obtain ⟨xins, ⟨ek, ea, et, ee⟩⟩ := x
 simp only at *
 obtain ⟨xa, xc, rfl, _⟩ := hins.slice
 obtain ⟨vd, hvd, hrun⟩ := ins_drop hins hpl
 obtain ⟨da, dc, rfl, _⟩ := hvd.slice
 have HDL : Hid ((xins.drop pl).length ≤ 128) := by show _ ≤ _; rw [List.length_drop]; omega
 have HIO : Hid (∀ y ∈ xins.drop pl, (0 ≤ y.op ∧ y.op ≤ 255) ∧ y.args.length ≤ 16) := fun y hy => hio y (List.mem_of_mem_drop hy)
 have HRL := hid (readK_len (fr := first + pl) (fun y hy => (HIO.out y hy).2))
 have HRS := hid (fun (k : Nat) (y : Ix) (h : (xins.drop pl)[k]? = some y) => readK_succ (fr := first + pl) h)
 have HCE : Hid (cutR (first + pl) (xins.drop pl) ⟨ek, ea, et, ee⟩ = readK (first + pl) (xins.drop pl) (xins.drop pl).length ++ outs (first + pl) (xins.drop pl).length (endsOf ⟨ek, ea, et, ee⟩)) := rfl
 obtain ⟨fr, hfr⟩ : ∃ fr, first + pl = fr := ⟨_, rfl⟩
 have e1 : (first : Int) + (pl : Int) = (fr : Int) := by omega
 have HFR : Hid (fr ≤ 100128) := by show _ ≤ _; omega
 rw [hfr] at HCE HRL HRS ⊢
 obtain ⟨W0, hW0⟩ : ∃ W0, W0 = (w.alloc (.cells #[.slice xa xins.length xc, .int .u8 ek, .int .i64 ea, .int .i64 et, .int .i64 ee] 38)).alloc (.cells #[.slice none 0 0, .int .i64 0, .int .i64 0] 97) := ⟨_, rfl⟩
 have hb0 : Below w.heap.size w W0 := by rw [hW0]; exact ((Below.refl _ w).alloc (Nat.le_refl _) _).alloc (by simp) _
 have hs0 : W0.heap.size = w.heap.size + 1 + 1 := by rw [hW0]; simp
 have k0 : W0.heap[w.heap.size]? = some (.cells #[.slice xa xins.length xc, .int .u8 ek, .int .i64 ea, .int .i64 et, .int .i64 ee] 38 (0, 0)) := by
  rw [hW0]
  exact ((alloc_below _ _).block _ (by simp)).trans (alloc_new _ _)
 have r0 : W0.heap[w.heap.size + 1]? = some (.cells #[.slice none 0 0, .int .i64 0, .int .i64 0] 97 (0, 0)) := by
  rw [hW0]
  have := alloc_new (w.alloc (.cells #[.slice xa xins.length xc, .int .u8 ek, .int .i64 ea, .int .i64 et, .int .i64 ee] 38)) (.cells #[.slice none 0 0, .int .i64 0, .int .i64 0] 97)
  rwa [World.size_alloc] at this
 have HTD := hid (fun wx (h : Aft W0 wx) => ht.on (h.out hb0))
 have HVD := hid (hvd.below insStays hb0)
 have HEN := hid hen
 have HB0 := hid hb0
 have HW0 := hid hW0
 obtain ⟨n, hn⟩ : ∃ n, w.heap.size = n := ⟨_, rfl⟩
 rw [hn] at hs0 k0 r0
 have HN := hid hn
 obtain ⟨Bc, hBc⟩ : ∃ Bc, n + 1 + 1 = Bc := ⟨_, rfl⟩
 obtain ⟨Bl, hBl⟩ : ∃ Bl, Bc + 1 = Bl := ⟨_, rfl⟩
 rw [hBc] at hs0
 have l1 := later_cells k0 1 _ rfl; have l2 := later_cells k0 2 _ rfl; have l3 := later_cells k0 3 _ rfl; have l4 := later_cells k0 4 _ rfl
 have hst : CutSt W0 Bc Bl fr 0 (.slice none 0 0) (readK fr (xins.drop pl) 0) ((W0.alloc (.cells #[.slice none 0 0, .int .i64 (fr : Int), .int .i64 (fr : Int)] 97)).alloc (.cells #[.slice none 0 0] 29)) := by
  have z1 := alloc_new W0 (.cells #[.slice none 0 0, .int .i64 (fr : Int), .int .i64 (fr : Int)] 97)
  have z2 := alloc_new (W0.alloc (.cells #[.slice none 0 0, .int .i64 (fr : Int), .int .i64 (fr : Int)] 97)) (.cells #[.slice none 0 0] 29)
  rw [World.size_alloc, hs0, hBl] at z2
  rw [hs0] at z1
  refine ⟨((alloc_below _ _).block _ (by rw [World.size_alloc]; omega)).trans z1, z2, ⟨0, rfl, .inl ⟨rfl, rfl⟩⟩, ?_, by omega, by omega⟩
  exact ((Below.refl _ _).alloc (Nat.le_refl _) _).alloc (by rw [World.size_alloc]; omega) _
 have HR0 := hid (later_heap r0)
 have HST := hid hst
 have HS0 := hid hs0
 have HBL := hid hBl
 have HBC := hid hBc
 clear hst hs0 hins hvd hio hen ht hb0 hW0 k0 r0 hpl hl hfr hf hn hBc hBl
 have hfb := HFR.out
 generalize xins.drop pl = xs at *
 generalize xins.length = n0 at *
 go_enter Tryz.func48, Tryz.ntmps48
 go_wp2_with fail
 rw [← HW0.out, HN.out, HBC.out, HBL.out]
 obtain ⟨wl, hwl⟩ : ∃ wl, wl = (W0.alloc (.cells #[.slice none 0 0, .int .i64 (fr : Int), .int .i64 (fr : Int)] 97)).alloc (.cells #[.slice none 0 0] 29) := ⟨_, rfl⟩
 rw [← hwl]
 rw [← hwl] at HST
 clear hwl hrun e1 hfb
 go_loopg [11, 25] xs.length (fun gk _ i wr => ∃ (k : Nat) (v1 : Value), k + gk = xs.length ∧ i = .int .i64 k ∧ CutSt W0 Bc Bl fr k v1 (readK fr xs k) wr)
 case atStart => exact ⟨0, _, by omega, rfl, HST.out⟩
 case round =>
  obtain ⟨k, v1, hk, rfl, hst⟩ := hrel
  have HK := hid hk
  have HST1 := hid hst
  have hA : Aft W0 wr := hst.bel
  clear HST hk hst
  by_cases hlt : k < xs.length
  ·have HLT := hid hlt
   obtain ⟨y, hy⟩ := some_at hlt
   obtain ⟨gi, ioff, aa, ac, fa2, fc2, rfl, i0, i1, i2, i3, i4, i5, i6, ja, jf⟩ := ins_later HVD.out hy
   have hio := HIO.out y (List.mem_of_getElem? hy)
   have HSC := hid (HRS.out k y hy)
   have HRLk := hid (HRL.out k)
   have c0 := i0 wr hA; have c1 := i1 wr hA; have c2 := i2 wr hA; have c3 := i3 wr hA; have c4 := i4 wr hA; have c5 := i5 wr hA; have c6 := i6 wr hA
   have hkx : (k : Int) < (xs.length : Int) := by omega
   have hkb : k ≤ 9223372036854775806 := by have := HDL.out; omega
   obtain ⟨W6, hW6⟩ : ∃ W6, W6 = wr.alloc (.cells #[.int .u8 y.op, .int .i64 y.typ, .int .i64 y.a, .int .i64 y.b, .int .i64 y.n, .slice aa y.args.length ac, .slice fa2 y.frm.length fc2] 31) := ⟨_, rfl⟩
   have hb6 : Below wr.heap.size wr W6 := by rw [hW6]; exact alloc_below _ _
   have k6 : W6.heap[wr.heap.size]? = some (.cells #[.int .u8 y.op, .int .i64 y.typ, .int .i64 y.a, .int .i64 y.b, .int .i64 y.n, .slice aa y.args.length ac, .slice fa2 y.frm.length fc2] 31 (0, 0)) := by rw [hW6]; exact alloc_new _ _
   have m0 := later_cells k6 0 _ rfl W6 (Aft.refl _); have m1 := later_cells k6 1 _ rfl W6 (Aft.refl _); have m2 := later_cells k6 2 _ rfl W6 (Aft.refl _); have m3 := later_cells k6 3 _ rfl W6 (Aft.refl _); have m4 := later_cells k6 4 _ rfl W6 (Aft.refl _); have m5 := later_cells k6 5 _ rfl W6 (Aft.refl _); have m6 := later_cells k6 6 _ rfl W6 (Aft.refl _)
   have hst6 := HST1.out.go hb6
   have hA6 : Aft W0 W6 := hA.go hb6
   have HUC := hid (uses_calls y _ (.slice fa2 y.frm.length fc2) W6 hio.1.1 hio.1.2 (HTD.out W6 hA6) (ja W6 hA6) (by omega) ⟨_, _, _, rfl⟩)
   have HUL := hid (uses_len hio.2)
   have HSE : Hid (∀ h : y.op = 22, LuM.seen y = []) := fun h => by unfold LuM.seen; rw [if_pos h]
   have HSU : Hid (∀ h : y.op ≠ 22, LuM.seen y = usesOf y) := fun h => by unfold LuM.seen; rw [if_neg h]
   have HW6 := hid hW6
   have HST6 := hid hst6
   obtain ⟨q, hq⟩ : ∃ q, fr + k = q := ⟨_, rfl⟩
   have HNX := hid (fun (v : Value) (wz : World) (h : CutSt W0 Bc Bl fr k v (readK fr xs k ++ outs fr k (LuM.seen y)) wz) => CutSt.next h)
   rw [← HSC.out, show ((fr + (k + 1) : Nat) : Int) = (q : Int) + 1 by omega] at HNX
   have hqb : q ≤ 9223372036854775806 := by have := HFR.out; have := HDL.out; omega
   have HCC := hid (fun (v : Value) (L : List Int) (wz : World) (h : CutSt W0 Bc Bl fr k v L wz) => (⟨h.cells.2.2, by unfold World.frozen?; rw [h.box]; simp⟩ : wz.cell? ⟨Bc, 2, none⟩ = some (.int .i64 ((fr + k : Nat) : Int)) ∧ wz.frozen? ⟨Bc, 2, none⟩ = false))
   rw [hq] at HCC
   have HC1 := hid (fun (u : Value) (w7 : World) (h7 : Below W6.heap.size W6 w7) (hu : NewI W6.heap.size w7 u (usesOf y)) => cut1_c W0 Bc Bl fr k v1 (readK fr xs k) w7 (hst6.go h7) u (usesOf y) hu.1 (hst6.away hu) (by have := HUL.out; omega) (by have := HRLk.out; have := HDL.out; omega))
   clear i0 i1 i2 i3 i4 i5 i6 ja jf hio hy hA hW6 hb6 k6 hst6 hA6 hq HRS HRL HIO HTD HVD HST1 hlt
   obtain ⟨yop, yty, ya, yb, yn, yar, yfr⟩ := y
   simp only at *
   go_upto_region 7 with fail
   rw [← HW6.out]
   by_cases h22 : yop = 22
   ·have e22 : (yop != 22) = false := by simp [h22]
    have HS0 := HSE.out h22
    have h9 : CutSt W0 Bc Bl fr k v1 (readK fr xs k ++ outs fr k (LuM.seen ⟨yop, yty, ya, yb, yn, yar, yfr⟩)) W6 := by
     rw [HS0]
     simpa [outs] using HST6.out
    obtain ⟨x0, x1⟩ := HCC.out _ _ _ h9
    rw [← HSC.out] at h9
    have HR := hid (HNX.out _ _ h9)
    clear h22 HS0 h9 HNX HCC HSE HSU HC1 HUC HST6 c0 c1 c2 c3 c4 c5 c6 m1 m2 m3 m4 m5 m6
    go_wp2
    go_roundg (gk - 1)
    case measure => have := HK.out; have := HLT.out; omega
    case rel => exact ⟨k + 1, _, by have := HK.out; have := HLT.out; omega, by go_num, HR.out⟩
   ·have e22 : (yop != 22) = true := by simpa using h22
    rw [← HSU.out h22] at HUC HC1
    rw [← HSU.out h22] at HUL
    clear h22 HSE HSU
    generalize LuM.seen ⟨yop, yty, ya, yb, yn, yar, yfr⟩ = us at *
    go_wp2_with fail
    refine HUC.out.mono ?_
    rintro e w7 ⟨u7, m7, rfl, hu7, hb7⟩
    have HC := hid (HC1.out u7 w7 hb7 (newI_of hu7 (by have := HUL.out; omega)))
    obtain ⟨ua, uc, rfl⟩ := RwO.own_form hu7
    clear HUC hu7 hb7 HC1 c0 c1 c2 c3 c4 c5 c6 m0 m1 m2 m3 m4 m5 m6
    go_wp2_with fail
    refine HC.out.mono ?_
    rintro e w8 ⟨rfl, v8, h8⟩
    obtain ⟨x0, x1⟩ := HCC.out _ _ _ h8
    rw [← HSC.out] at h8
    have HR := hid (HNX.out _ _ h8)
    clear h8 HC HCC HNX
    go_wp2
    go_roundg (gk - 1)
    case measure => have := HK.out; have := HLT.out; omega
    case rel => exact ⟨k + 1, _, by have := HK.out; have := HLT.out; omega, by go_num, HR.out⟩
  ·obtain rfl : k = xs.length := by have := HK.out; omega
   have q1 := l1 wr hA; have q2 := l2 wr hA; have q3 := l3 wr hA; have q4 := l4 wr hA
   have HEC := hid (ends_calls ⟨ek, ea, et, ee⟩ wr HEN.out.1 HEN.out.2 (HTD.out wr hA))
   have HEL := hid (ends_len ⟨ek, ea, et, ee⟩)
   have HC1 := hid (fun (u : Value) (w7 : World) (h7 : Below wr.heap.size wr w7) (hu : NewI wr.heap.size w7 u (endsOf ⟨ek, ea, et, ee⟩)) => cut1_c W0 Bc Bl fr xs.length v1 (readK fr xs xs.length) w7 (HST1.out.go h7) u (endsOf ⟨ek, ea, et, ee⟩) hu.1 (HST1.out.away hu) (by have := HEL.out; omega) (by have := HRL.out xs.length; have := HDL.out; omega))
   rw [← HCE.out] at HC1
   have HB := hid hA
   have HCL : Hid ((cutR fr xs ⟨ek, ea, et, ee⟩).length ≤ 100000) := by
    show _ ≤ _
    rw [HCE.out, List.length_append]
    have h1 := HRL.out xs.length
    have h2 := outs_len fr xs.length (endsOf ⟨ek, ea, et, ee⟩)
    have h3 := HEL.out
    have h4 := HDL.out
    omega
   clear l1 l2 l3 l4 hA hlt HRL HRS HIO HTD HVD HCE
   generalize endsOf ⟨ek, ea, et, ee⟩ = es at *
   generalize cutR fr xs ⟨ek, ea, et, ee⟩ = cl at *
   go_wp2_with fail
   refine HEC.out.mono ?_
   rintro e w7 ⟨u7, m7, rfl, hu7, hb7⟩
   have HC := hid (HC1.out u7 w7 hb7 (newI_of hu7 (by have := HEL.out; omega)))
   obtain ⟨ua, uc, rfl⟩ := RwO.own_form hu7
   clear HEC hu7 hb7 HC1 q1 q2 q3 q4 HST1
   go_wp2_with fail
   refine HC.out.mono ?_
   rintro e w8 ⟨rfl, v8, h8⟩
   obtain ⟨m8, hm8⟩ := h8.row
   have hbx := h8.lst.cell
   have hcl := HCL.out
   have HSC := hid (set_c v8 cl w8 (intsAt_of_owns hm8 (by omega)))
   have H8 := hid h8
   clear HC h8 hm8 hcl
   go_wp2_with fail
   refine HSC.out.mono ?_
   rintro e w9 ⟨u9, rfl, hu9, hb9⟩
   have h9 := H8.out.go hb9
   obtain ⟨y0, y1, y2⟩ := h9.cells
   have f9 : w9.frozen? ⟨Bc, 0, none⟩ = false := by unfold World.frozen?; rw [h9.box]; simp
   have r9 := HR0.out w9 h9.bel
   obtain ⟨ua9, uc9, rfl⟩ := RwO.own_form hu9
   obtain ⟨w10, hw10⟩ : ∃ w10, w10 = w9.setCell ⟨Bc, 0, none⟩ (.slice ua9 (ofS cl).length uc9) := ⟨_, rfl⟩
   have hne : Bc ≠ n + 1 := by have := HBC.out; omega
   have b10 : w10.heap[Bc]? = some (.cells #[.slice ua9 (ofS cl).length uc9, .int .i64 ((fr : Nat) : Int), .int .i64 ((fr + xs.length : Nat) : Int)] 97 (0, 0)) := by
    rw [hw10]
    have := TyD.set_heap (i := 0) (.slice ua9 (ofS cl).length uc9) h9.box
    simpa using this
   have r10 : w10.heap[n + 1]? = some (.cells #[.slice none 0 0, .int .i64 0, .int .i64 0] 97 (0, 0)) := by
    rw [hw10]
    exact (Below.heap_setCell w9 ⟨Bc, 0, none⟩ _ (n + 1) (fun e => hne e.symm)).trans r9
   have z0 := later_cells b10 0 _ rfl w10 (Aft.refl _); have z1 := later_cells b10 1 _ rfl w10 (Aft.refl _); have z2 := later_cells b10 2 _ rfl w10 (Aft.refl _)
   have v0 := later_cells r10 0 _ rfl w10 (Aft.refl _); have v1' := later_cells r10 1 _ rfl w10 (Aft.refl _); have v2 := later_cells r10 2 _ rfl w10 (Aft.refl _)
   have g0 : w10.frozen? ⟨n + 1, 0, none⟩ = false := by unfold World.frozen?; rw [r10]; simp
   have g1 : w10.frozen? ⟨n + 1, 1, none⟩ = false := by unfold World.frozen?; rw [r10]; simp
   have g2 : w10.frozen? ⟨n + 1, 2, none⟩ = false := by unfold World.frozen?; rw [r10]; simp
   have HBe : Hid (Below w.heap.size w w10) := by
    show Below _ _ _
    rw [hw10]
    exact (HB0.out.trans (h9.bel.mono HB0.out.size)).setCell (p := ⟨Bc, 0, none⟩) (by have := HBC.out; have := HN.out; show _ ≤ Bc; omega) _
   have HUe : Hid (NewSt w8.heap.size w10 (.slice ua9 (ofS cl).length uc9) (ofS cl)) := by
    show NewSt _ _ _ _
    rw [hw10]
    exact newSt_set hu9 (Nat.lt_of_lt_of_le (Array.getElem?_eq_some_iff.1 H8.out.box).1 (Nat.le_refl _))
   have HW10 := hid hw10
   have HLT8 : Hid (n + 1 < w8.heap.size) := by
    have := (Array.getElem?_eq_some_iff.1 H8.out.box).1
    have := HBC.out
    show _ < _
    omega
   have HFin := hid (fun (wz : World) (h1 : Below w.heap.size w10 wz) (h2 : NewSt w8.heap.size wz (.slice ua9 (ofS cl).length uc9) (ofS cl)) => show PartR w fr xs.length cl (.returned (.agg #[.slice ua9 (ofS cl).length uc9, .int .i64 ((fr : Nat) : Int), .int .i64 ((fr + xs.length : Nat) : Int)])) wz from ⟨_, rfl, newSt_base h2 (by have := HLT8.out; have := HN.out; omega), HBe.out.trans h1⟩)
   obtain ⟨W3, hW3, k3, hB3⟩ := set3_world w10 (n + 1) 97 _ _ _ (.slice ua9 (ofS cl).length uc9) (.int .i64 ((fr : Nat) : Int)) (.int .i64 ((fr + xs.length : Nat) : Int)) r10
   have HF3 := hid (HFin.out W3 (hB3 _ _ (Below.refl _ _) (by have := HN.out; omega)) (by rw [hW3]; exact newSt_set (newSt_set (newSt_set HUe.out HLT8.out) HLT8.out) HLT8.out))
   have HW3 := hid hW3
   have HK3 := hid k3
   clear HSC hb9 H8 hu9 h9 r9 hbx hw10 b10 r10 hne hW3 k3 hB3 HFin HUe
   generalize ofS cl = so at *
   generalize ((fr + xs.length : Nat) : Int) = th at *
   go_upto_region 13 with fail
   rw [← HW10.out]
   go_wp2_with fail
   rw [← HW3.out]
   exact bodyPost_ret (results_cell_row rfl _ _ _ _ _ _ _ rfl HK3.out partUnder rfl partSize) rfl HF3.out
end Go.Proofs.YtpejpnffcepdlaaGreatDoor.LiC
namespace Go.Proofs.YtpejpnffcepdlaaGreatDoor.LiD
open Go.RowKit Go.Lib SetP IntO TyM TyP TyB ShM ShP ShA ShB Aft Fresh BitOf FwP FwQ FwR FwO IntG LvM LuM LgD BlkG LiM LiA LiB

set_option maxRecDepth 100000 in
set_option maxHeartbeats 8000000 in
theorem phis_c (bl : List Bx) (va vn : Value) (j : Nat) (tl : List Nat) (N : Nat) (w : World) (hbl : BlksAt w va bl) (hv : IntsAt w vn (ints tl)) (htl : ∀ t ∈ tl, t < bl.length) (h2 : tl.length ≤ 2) (hR : Regs N bl) (hbn : bl.length ≤ 1000) :
  Calls Tryz.prog 86 #[va, .int .i64 (j : Int), vn] w fun e w' => ∃ u, e = .returned u ∧ NewSt w.heap.size w' u (ofS (phL j bl tl)) ∧ Below w.heap.size w w' := by
 obtain ⟨ba, bc, rfl, _⟩ := hbl.slice
 obtain ⟨na, nc, rfl, _⟩ := ints_slice hv
 rw [ints_length] at hv ⊢
 have HBL := hid hbl
 have HV := hid hv
 have HGN := hid (phL_few (b := j) hR htl h2)
 have HGS := hid (fun (i t : Nat) (h : tl[i]? = some t) => phL_succ (b := j) (l := bl) h)
 have HTL := hid htl
 have HXF := hid (fun (t : Nat) (h : t < bl.length) => insAt_facts hR h)
 have HXL := hid (fun (t : Nat) (h : t < bl.length) => insL_few (b := j) hR h)
 have H2 := hid h2
 have HBN := hid hbn
 have hz : Hid (w.ownsRow w.heap.size 3 1 (.slice none 0 0) (phL j bl (tl.take 0)).length (intVals (phL j bl (tl.take 0)))) := ⟨rfl, .inl ⟨rfl, rfl⟩⟩
 have HPE : Hid (phL j bl (tl.take tl.length) = phL j bl tl) := by show _ = _; rw [List.take_length]
 clear hbl hv htl h2 hR hbn
 go_enter Tryz.func86, Tryz.ntmps86
 go_wp2_with fail
 go_loopg [7, 16] tl.length (fun gk u i wr => ∃ k : Nat, k + gk = tl.length ∧ i = .int .i64 k ∧ wr.ownsRow w.heap.size 3 1 u (phL j bl (tl.take k)).length (intVals (phL j bl (tl.take k))) ∧ Aft w wr)
 case atStart => exact ⟨0, by omega, rfl, hz.out, Aft.refl _⟩
 case round =>
  obtain ⟨i, hi, rfl, hown, hA⟩ := hrel
  have HI := hid hi
  have HOWN := hid hown
  obtain ⟨ua, uc, rfl⟩ := own_slice hown
  have HG1 := hid (HGN.out i)
  clear hi hown hz
  by_cases hit : i < tl.length
  ·have HIT := hid hit
   obtain ⟨t, ht⟩ := some_at hit
   have HT := hid (HTL.out t (List.mem_of_getElem? ht))
   obtain ⟨nb, no, rfl, n0⟩ := nat_at (HV.out.below hA.below) ht
   obtain ⟨gb, goff, xa, xc, rfl, z0, hins, _⟩ := blk_ins HBL.out HT.out
   have HGS1 := hid (HGS.out i t ht)
   have HXF1 := hid (HXF.out t HT.out)
   have HXL1 := hid (HXL.out t HT.out)
   have c0 := z0 wr hA
   have htb : (t : Int) < (bl.length : Int) := by have := HT.out; omega
   have hit2 : (i : Int) < (tl.length : Int) := by omega
   have hib : i ≤ 9223372036854775806 := by have := H2.out; omega
   have HINS := hid hins
   clear ht z0 hins HGS HXF HXL HV HTL HT hit
   obtain ⟨A, hAe⟩ : ∃ A, A = phL j bl (tl.take i) := ⟨_, rfl⟩
   have HAL2 : Hid (A.length ≤ 80000) := by
    show _ ≤ _
    rw [hAe]
    have := HG1.out
    omega
   have HAE := hid hAe
   rw [← hAe] at HOWN
   rw [← hAe]
   clear hAe HG1
   generalize insAt bl t = xs at *
   obtain ⟨g1, hg1⟩ : ∃ g1 : Nat, g1 = gk := ⟨gk, rfl⟩
   subst hg1
   go_wp2_with fail
   go_loopg [7, 26] xs.length (fun gk u kv wr => ∃ k2 : Nat, k2 + gk = xs.length ∧ kv = .int .i64 k2 ∧ wr.ownsRow w.heap.size 3 1 u (A ++ insL j (xs.take k2)).length (intVals (A ++ insL j (xs.take k2))) ∧ Aft w wr)
   case atStart => exact ⟨0, by omega, rfl, by simpa [insL] using HOWN.out, hA⟩
   case round =>
    obtain ⟨k2, hk2, rfl, hown, hA⟩ := hrel
    have HK2 := hid hk2
    have HOWN := hid hown
    obtain ⟨ua2, uc2, rfl⟩ := own_slice hown
    clear hk2 hown c0 n0
    by_cases hkt : k2 < xs.length
    ·have HKT := hid hkt
     obtain ⟨x, hx⟩ := some_at hkt
     obtain ⟨gi, ioff, aa, ac, fa2, fc2, rfl, i0, i1, i2, i3, i4, i5, i6, ja, jf⟩ := ins_later HINS.out hx
     have u0 := i0 wr hA; have u1 := i1 wr hA; have u2 := i2 wr hA; have u3 := i3 wr hA; have u4 := i4 wr hA; have u5 := i5 wr hA; have u6 := i6 wr hA
     have HJA := hid ja
     have HJF := hid jf
     have HIS := hid (insL_succ (b := j) hx)
     have HX := hid (HXF1.out.2 x (List.mem_of_getElem? hx))
     have hk2l : (k2 : Int) < (xs.length : Int) := by omega
     have hk2b : k2 ≤ 9223372036854775806 := by have := HXF1.out.1; omega
     have HBL2 := hid (HXL1.out k2)
     have HPY := hid (fun m u (h22 : x.op = 22) h1 h2 => prL_yes (b := j) (m := m) (x := x) (u := u) h22 h1 h2)
     have HPN := hid (fun m c u h1 h2 h3 => prL_no (b := j) (m := m) (x := x) (c := c) (u := u) h1 h2 h3)
     have HPZ := hid (prL_zero j x)
     have HPL := hid (fun m => prL_len j m x)
     clear hx i0 i1 i2 i3 i4 i5 i6 ja jf hkt
     obtain ⟨xop, xty, xa1, xb1, xn1, xar, xfr⟩ := x
     simp only at *
     obtain ⟨Bq, hBq⟩ : ∃ Bq, Bq = A ++ insL j (xs.take k2) := ⟨_, rfl⟩
     have HBE := hid hBq
     have HBQ : Hid (Bq.length ≤ 90000) := by
      show _ ≤ _
      rw [hBq, List.length_append]
      have := HAL2.out; have := HBL2.out
      omega
     rw [← hBq] at HOWN
     rw [← hBq]
     obtain ⟨W6, hW6⟩ : ∃ W6, W6 = wr.alloc (.cells #[.int .u8 xop, .int .i64 xty, .int .i64 xa1, .int .i64 xb1, .int .i64 xn1, .slice aa xar.length ac, .slice fa2 xfr.length fc2] 31) := ⟨_, rfl⟩
     have hb6 : Below wr.heap.size wr W6 := by rw [hW6]; exact alloc_below _ _
     have k6 : W6.heap[wr.heap.size]? = some (.cells #[.int .u8 xop, .int .i64 xty, .int .i64 xa1, .int .i64 xb1, .int .i64 xn1, .slice aa xar.length ac, .slice fa2 xfr.length fc2] 31 (0, 0)) := by rw [hW6]; exact TyD.alloc_new _ _
     have HO6 := hid (ownsRow_below HOWN.out hb6)
     have HA6 := hid (hA.go hb6)
     have HW6 := hid hW6
     have HK6 := hid k6
     have m5 := later_cells k6 5 _ rfl W6 (Aft.refl _); have m6 := later_cells k6 6 _ rfl W6 (Aft.refl _)
     clear hBq hW6 hb6 k6 HOWN
     obtain ⟨g2, hg2⟩ : ∃ g2 : Nat, g2 = gk := ⟨gk, rfl⟩
     subst hg2
     go_upto_region 8 with fail
     rw [← HW6.out]
     obtain ⟨bx, hbx⟩ : ∃ bx, bx = wr.heap.size := ⟨_, rfl⟩
     rw [← hbx] at HK6 m5 m6
     rw [← hbx]
     clear hbx hA u0 u1 u2 u3 u4 u5 u6 HW6
     go_wp2_with fail
     go_loopg [7, 33] xfr.length (fun gk u mv wr => ∃ m : Nat, m + gk = xfr.length ∧ mv = .int .i64 m ∧ wr.ownsRow w.heap.size 3 1 u (Bq ++ prL j m ⟨xop, xty, xa1, xb1, xn1, xar, xfr⟩).length (intVals (Bq ++ prL j m ⟨xop, xty, xa1, xb1, xn1, xar, xfr⟩)) ∧ Aft w wr ∧ wr.heap[bx]? = some (.cells #[.int .u8 xop, .int .i64 xty, .int .i64 xa1, .int .i64 xb1, .int .i64 xn1, .slice aa xar.length ac, .slice fa2 xfr.length fc2] 31 (0, 0)))
     case atStart => exact ⟨0, by omega, rfl, by rw [HPZ.out, List.append_nil]; exact HO6.out, HA6.out, HK6.out⟩
     case round =>
      obtain ⟨m, hm, rfl, hown, hA3, hbox⟩ := hrel
      have HM := hid hm
      have HPL1 := hid (HPL.out m)
      obtain ⟨C, hC⟩ : ∃ C, C = Bq ++ prL j m ⟨xop, xty, xa1, xb1, xn1, xar, xfr⟩ := ⟨_, rfl⟩
      have HCE := hid hC
      have HCL3 : Hid (C.length ≤ 100000) := by
       show _ ≤ _
       rw [hC, List.length_append]
       have := HBQ.out; have := HPL1.out; have := HX.out.1
       omega
      rw [← hC] at hown
      have HOWN3 := hid hown
      have HBOX := hid hbox
      obtain ⟨ua3, uc3, rfl⟩ := own_slice hown
      clear hm hown HO6 HA6 HK6 hC HPL1 m5 m6
      by_cases hmt : m < xfr.length
      ·have HMT := hid hmt
       have h22 : xop = 22 := by
        refine Classical.byContradiction fun e => ?_
        have := HX.out.2.2.2 e
        rw [this] at hmt
        exact absurd hmt (by simp)
       have hal := HX.out.2.2.1 h22
       have hma : m < xar.length := by omega
       obtain ⟨cf, hcf⟩ := some_at hmt
       obtain ⟨ca, hca⟩ := some_at hma
       obtain ⟨bf, of, rfl, cf0⟩ := int_at (HJF.out wr hA3) hcf
       obtain ⟨ba, oa, rfl, ca0⟩ := int_at (HJA.out wr hA3) hca
       have HPN1 := hid (HPN.out m cf ca hcf hca)
       have HPY1 := hid (fun (e : cf = (j : Int)) => HPY.out m ca h22 (e ▸ hcf) hca)
       have m5 := later_cells hbox 5 _ rfl wr (Aft.refl _)
       have hmb : m ≤ 9223372036854775806 := by have := HX.out.1; omega
       have hml : (m : Int) < (xfr.length : Int) := by omega
       have hml2 : (m : Int) < (xar.length : Int) := by omega
       clear hcf hca h22 hal HPY HPN hbox hmt hma
       by_cases hcj : cf = (j : Int)
       ·have HP3 := hid (HPY1.out hcj)
        have ecj : (cf == (j : Int)) = true := by simpa using hcj
        clear hcj HPY1 HPN1
        have HO4 := hid (HOWN3.out.alloc (.cells #[.int .i64 ca] 3))
        have HI4 := hid (ints_one (w := wr.alloc (.cells #[.int .i64 ca] 3)) (b := wr.heap.size) (n := ca) (cell_new _ _ _ _ rfl) (size_new _ _ _ rfl))
        have hA4 := hA3.alloc (.cells #[.int .i64 ca] 3)
        have hsz4 : w.heap.size ≤ (wr.alloc (.cells #[.int .i64 ca] 3)).heap.size := hA4.size
        have hn4 := HCL3.out
        go_wp2_with (at_builtin; refine wpList_append_ints rfl (.tmp 41) (.tmp 47) rfl w.heap.size (.slice ua3 C.length uc3) rfl C.length (intVals C) HO4.out hn4 (.slice (some ⟨wr.heap.size, 0, none⟩) 1 1) [ca] rfl HI4.out (by simp) hsz4 ?_)
        intro v9 w9 hown9 hgr9
        have HA9 : Hid (Aft w w9) := by
         show Aft w w9
         exact hA4.below.grown hgr9 hsz4 fun q hq => (HO4.out.lt q hq).1
        have HB9 : Hid (w9.heap[bx]? = some (.cells #[.int .u8 xop, .int .i64 xty, .int .i64 xa1, .int .i64 xb1, .int .i64 xn1, .slice (some ⟨ba, oa, none⟩) xar.length ac, .slice (some ⟨bf, of, none⟩) xfr.length fc2] 31 (0, 0))) := by
         have h1 := (alloc_below wr (.cells #[.int .i64 ca] 3)).block bx (Array.getElem?_eq_some_iff.1 HBOX.out).1
         have h2 := h1.trans HBOX.out
         exact (hgr9.block bx (Array.getElem?_eq_some_iff.1 h2).1 (fun e => row_box HO4.out h2 (by decide) e.symm)).trans h2
        have HO9 : Hid (w9.ownsRow w.heap.size 3 1 v9 (Bq ++ prL j (m + 1) ⟨xop, xty, xa1, xb1, xn1, xar, xfr⟩).length (intVals (Bq ++ prL j (m + 1) ⟨xop, xty, xa1, xb1, xn1, xar, xfr⟩))) := by
         show World.ownsRow _ _ _ _ _ _ _
         rw [HP3.out, ← List.append_assoc, ← HCE.out, intVals_append, List.length_append]
         exact hown9
        obtain ⟨xa9, xc9, rfl⟩ := own_slice hown9
        clear hown9 hgr9 HO4 HI4 hsz4 hn4 hA4 m5
        go_wp2
        go_roundg (gk - 1)
        case measure => have := HM.out; have := HMT.out; omega
        case rel => exact ⟨m + 1, by have := HM.out; have := HMT.out; omega, by go_num, HO9.out, HA9.out, HB9.out⟩
       ·have HP3 := hid (HPN1.out hcj)
        have ecj : (cf == (j : Int)) = false := by simpa using hcj
        clear hcj HPY1 HPN1
        have HA9 := hid hA3
        go_wp2
        go_roundg (gk - 1)
        case measure => have := HM.out; have := HMT.out; omega
        case rel => exact ⟨m + 1, by have := HM.out; have := HMT.out; omega, by go_num, by rw [HP3.out, ← HCE.out]; exact HOWN3.out, HA9.out, HBOX.out⟩
      ·obtain rfl : m = xfr.length := by have := HM.out; omega
       have HO9 : Hid (wr.ownsRow w.heap.size 3 1 (.slice ua3 C.length uc3) (A ++ insL j (xs.take (k2 + 1))).length (intVals (A ++ insL j (xs.take (k2 + 1))))) := by
        show World.ownsRow _ _ _ _ _ _ _
        have e : A ++ insL j (xs.take (k2 + 1)) = C := by rw [HIS.out, ← List.append_assoc, ← HBE.out, HCE.out]
        rw [e]
        exact HOWN3.out
       have HA9 := hid hA3
       clear hmt HOWN3 hbox
       go_wp2
       go_roundg (g2 - 1)
       case measure => have := HK2.out; have := HKT.out; omega
       case rel => exact ⟨k2 + 1, by have := HK2.out; have := HKT.out; omega, by go_num, HO9.out, HA9.out⟩
    ·obtain rfl : k2 = xs.length := by have := HK2.out; omega
     have HO9 : Hid (wr.ownsRow w.heap.size 3 1 (.slice ua2 (A ++ insL j (xs.take xs.length)).length uc2) (phL j bl (tl.take (i + 1))).length (intVals (phL j bl (tl.take (i + 1))))) := by
      show World.ownsRow _ _ _ _ _ _ _
      have e : phL j bl (tl.take (i + 1)) = A ++ insL j (xs.take xs.length) := by rw [HGS1.out, HAE.out, List.take_length]
      rw [e]
      exact HOWN.out
     have HA9 := hid hA
     clear hkt HOWN
     go_wp2
     go_roundg (g1 - 1)
     case measure => have := HI.out; have := HIT.out; omega
     case rel => exact ⟨i + 1, by have := HI.out; have := HIT.out; omega, by go_num, HO9.out, HA9.out⟩
  ·obtain rfl : i = tl.length := by have := HI.out; omega
   rw [HPE.out] at HOWN HG1
   have HSC := hid (set_c _ _ wr (intsAt_of_owns HOWN.out (by have := HG1.out; omega)))
   have HFIN := hid hA
   rw [HPE.out]
   clear hit HOWN hA HGS HGN HV
   go_wp2_with fail
   refine HSC.out.mono ?_
   rintro e w2 ⟨u2, rfl, hu2, hb2⟩
   obtain ⟨ua9, uc9, rfl⟩ := RwO.own_form hu2
   have HU := hid (LiC.newSt_base hu2 HFIN.out.size)
   have HE := hid (HFIN.out.go hb2)
   clear HSC hu2 hb2
   go_wp2
   go_ret
   exact ⟨_, rfl, HU.out, HE.out⟩
end Go.Proofs.YtpejpnffcepdlaaGreatDoor.LiD
namespace Go.Proofs.YtpejpnffcepdlaaGreatDoor.ShBP
open Go.RowKit Go.Lib SetP IntO TyM TyP TyB TyC ShM ShP ShA ShB ShC ShE ShQ ShF ShG ShH ShI ShJ ShK ShL

theorem locate_spec : ∀ (l : List Bx) (n : Nat), n < manyB l → ∃ (j i : Nat) (h : j < l.length), locate l n = (j, i) ∧ manyB (l.take j) + i = n ∧ i < l[j].ins.length
 | [], n, h => by simp [manyB_nil] at h
 | b :: l, n, h => by
  by_cases hb : n < b.ins.length
  ·exact ⟨0, n, by simp, by unfold locate; rw [if_pos hb], by simp [manyB_nil], by simpa using hb⟩
  ·rw [manyB_cons] at h
   obtain ⟨j, i, hj, h1, h2, h3⟩ := locate_spec l (n - b.ins.length) (by omega)
   refine ⟨j + 1, i, by simpa using hj, by unfold locate; rw [if_neg hb, h1], ?_, by simpa using h3⟩
   rw [List.take_succ_cons, manyB_cons]; omega
theorem many_mono (l : List Bx) {a b : Nat} (h : a ≤ b) : manyB (l.take a) ≤ manyB (l.take b) := by
 have := manyB_le (l.take b) a
 rwa [List.take_take, Nat.min_eq_left h] at this
theorem back_in {p : Px} {f : Int} {k n : Nat} {x : Fx} {j i : Nat} (hz : findP p f = 0) (h1 : Has1 p f k x) (hn : n < manyB x.blocks) (hl : locate x.blocks n = (j, i)) : placeE p f ((parOf p.types x.sig + n : Nat) : Int) = 0 ∧ placeB p f ((parOf p.types x.sig + n : Nat) : Int) = j ∧ placeI p f ((parOf p.types x.sig + n : Nat) : Int) = i := by
 have he : placeE p f ((parOf p.types x.sig + n : Nat) : Int) = 0 := by
  unfold placeE
  rw [if_neg (fun e => e hz), cnt_at h1, if_pos ⟨by omega, by omega⟩]
 have ht : (((parOf p.types x.sig + n : Nat) : Int) - (parOf p.types x.sig : Nat)).toNat = n := by omega
 refine ⟨he, ?_, ?_⟩
 ·unfold placeB
  rw [he, if_neg (fun e => e rfl), fn_eq h1, if_neg (by omega), ht, hl]
 ·unfold placeI
  rw [he, if_neg (fun e => e rfl), fn_eq h1, if_neg (by omega), ht, hl]
end Go.Proofs.YtpejpnffcepdlaaGreatDoor.ShBP
namespace Go.Proofs.YtpejpnffcepdlaaGreatDoor.SoM
open TyM ShM ShP ShE ShH ShI ShN ShJ ShK ShL ShBP FwM FwC FwP FwQ FdM FdQ FeP FxL LvM LvQ

/-- what makes a function's registers well formed -/
structure Wf (par : Nat) (l : List Bx) : Prop where
 low : Low l
 pos : 0 < l.length
 reach : ∀ b, b < l.length → FwM.Comes (succ l) 0 b
 uses : ∀ (b k : Nat) (x : Ix), b < l.length → (insAt l b)[k]? = some x → x.op ≠ 22 → ∀ r ∈ usesOf x, isSetL par l r b k = true
 ends : ∀ b : Nat, b < l.length → ∀ r ∈ endsOf (endAt l b), isSetL par l r b (insAt l b).length = true
 phis : ∀ (j b : Nat) (x : Ix) (r : Int), j < l.length → b < l.length → x ∈ insAt l j → x.op = 22 → ((b : Int), r) ∈ x.frm.zip x.args → isSetL par l r b (insAt l b).length = true
/-- where a register's instruction stands -/
theorem set_loc {par : Nat} {l : List Bx} {r : Nat} (hr : r < par + manyB l) : r < par ∨ ∃ c q, c < l.length ∧ q < (insAt l c).length ∧ r = par + manyB (l.take c) + q ∧ locate l (((r : Int) - par).toNat) = (c, q) := by
 by_cases h : r < par
 ·exact .inl h
 ·obtain ⟨c, q, hc, hl, hm, hq⟩ := locate_spec l (((r : Int) - par).toNat) (by omega)
  refine .inr ⟨c, q, hc, ?_, by omega, hl⟩
  unfold insAt
  rw [List.getElem?_eq_getElem hc]
  exact hq
theorem set_par {par : Nat} {l : List Bx} {r : Nat} {b k : Int} (h : r < par) : isSetL par l r b k = true := by
 unfold isSetL
 rw [if_pos (by omega)]
theorem set_at {par : Nat} {l : List Bx} {r b k c q : Nat} (h : ¬ r < par) (hl : locate l (((r : Int) - par).toNat) = (c, q)) : isSetL par l r b k = if c = b then decide (q < k) else ruledL l c b := by
 unfold isSetL
 rw [if_neg (by omega), hl]
 by_cases e : c = b
 ·rw [if_pos e, if_pos (by show ((c : Nat) : Int) = (b : Int); omega)]
  exact decide_eq_decide.2 (by show ((q : Nat) : Int) < (k : Int) ↔ q < k; omega)
 ·rw [if_neg e, if_neg (by show ¬ ((c : Nat) : Int) = (b : Int); omega), Int.toNat_natCast]
/-- WHAT LIVES IS SET -/
theorem lives_set {par : Nat} {l : List Bx} (h : Wf par l) {r : Nat} (hr : r < par + manyB l) : ∀ {b k : Nat}, Lv l (ownN par l) r b k → b < l.length → (k ≤ (insAt l b).length → isSetL par l r b k = true) ∧ (k = (insAt l b).length + 1 → isSetL par l r b (insAt l b).length = true) := by
 rcases set_loc hr with hp | ⟨c, q, hc, hq, hrq, hl⟩
 ·exact fun _ _ => ⟨fun _ => set_par hp, fun _ => set_par hp⟩
 have hnp : ¬ r < par := by omega
 intro b k hv
 induction hv with
 | @read b k x hx hrd =>
  intro hb
  have hlt := (List.getElem?_eq_some_iff.1 hx).1
  refine ⟨fun _ => ?_, fun e => by omega⟩
  unfold readsI at hrd
  simp only [Bool.and_eq_true, decide_eq_true_eq] at hrd
  exact h.uses b k x hb hx hrd.1 r hrd.2
 | @next b k hlt hne _ ih =>
  intro hb
  have i1 := (ih hb).1 hlt
  refine ⟨fun _ => ?_, fun e => by omega⟩
  rw [set_at hnp hl] at i1 ⊢
  by_cases e : c = b
  ·rw [if_pos e] at i1 ⊢
   have h1 := of_decide_eq_true i1
   refine decide_eq_true ?_
   have : q ≠ k := fun e2 => hne (by subst e; subst e2; unfold ownN; omega)
   omega
  ·rw [if_neg e] at i1 ⊢
   exact i1
 | @ends b he =>
  intro hb
  exact ⟨fun _ => h.ends b hb r he, fun e => by omega⟩
 | @fall b _ ih =>
  intro hb
  exact ⟨fun _ => (ih hb).2 rfl, fun e => by omega⟩
 | @go b j hj _ ih =>
  intro hb
  have hjl := succ_lt h.low b hb j hj
  have i1 := (ih hjl).1 (Nat.zero_le _)
  refine ⟨fun e => by omega, fun _ => ?_⟩
  have i2 : isSetL par l r j ((0 : Nat) : Int) = true := i1
  rw [set_at hnp hl] at i2 ⊢
  by_cases e : c = j
  ·rw [if_pos e] at i2
   have := of_decide_eq_true i2
   omega
  ·rw [if_neg e] at i2
   have hrj := (ruled_iff h.low h.pos (h.reach j hjl)).1 i2
   have hrb := rules_ahead hrj e (h.reach b hb) hj
   by_cases e2 : c = b
   ·rw [if_pos e2]
    subst e2
    exact decide_eq_true hq
   ·rw [if_neg e2]
    exact (ruled_iff h.low h.pos (h.reach b hb)).2 hrb
 | @phi b j hj hp =>
  intro hb
  have hjl := succ_lt h.low b hb j hj
  refine ⟨fun e => by omega, fun _ => ?_⟩
  unfold byPhi at hp
  obtain ⟨x, hx, hv⟩ := List.any_eq_true.1 hp
  simp only [Bool.and_eq_true, decide_eq_true_eq] at hv
  exact h.phis j b x r hjl hb hx hv.1 hv.2
/-- nothing lives where nothing is set: at the beginning of a function without parameters -/
theorem lives_none {l : List Bx} (h : Wf 0 l) {r : Nat} (hr : r < manyB l) : ¬ Lv l (ownN 0 l) r 0 0 := by
 intro hv
 have h1 := (lives_set h (by omega) hv h.pos).1 (Nat.zero_le _)
 rcases set_loc (par := 0) (l := l) (r := r) (by omega) with hp | ⟨c, q, hc, hq, hrq, hl⟩
 ·omega
 ·have h2 : isSetL 0 l r ((0 : Nat) : Int) ((0 : Nat) : Int) = true := h1
  rw [set_at (by omega) hl] at h2
  by_cases e : c = 0
  ·rw [if_pos e] at h2
   have := of_decide_eq_true h2
   omega
  ·rw [if_neg e] at h2
   exact e (rules_first ((ruled_iff h.low h.pos .here).1 h2))
end Go.Proofs.YtpejpnffcepdlaaGreatDoor.SoM
namespace Go.Proofs.YtpejpnffcepdlaaGreatDoor.SvQ
open TyM ShM ShP ShE ShH ShI ShN ShJ ShK FwM FwC FwP FwQ LvM FdQ

/-- a type of a table -/
def tyN (t : List Ty) (k : Int) : Ty := (t[k.toNat]?).getD default
def isK (t : List Ty) (k kind : Int) : Bool := decide (0 ≤ k) && decide ((tyN t k).kind = kind)
/-- an instruction of blocks -/
def insOf (l : List Bx) (b i : Nat) : Ix := (insAt l b)[i]?.getD default
/-- a register's type; below 0: it has none -/
def typeI (t : List Ty) (x : Fx) (r : Int) : Int :=
 if r < parOf t x.sig then ((tyN t x.sig).parts[r.toNat]?).getD 0
 else if answersB (insOf x.blocks (locate x.blocks (r - parOf t x.sig).toNat).1 (locate x.blocks (r - parOf t x.sig).toNat).2).op = true then (insOf x.blocks (locate x.blocks (r - parOf t x.sig).toNat).1 (locate x.blocks (r - parOf t x.sig).toNat).2).typ else -1
/-- the type that a pointer's points to -/
def toK (t : List Ty) (k : Int) : Int := if isK t k 2 = true then (tyN t k).elem else -1
def partK (t : List Ty) (k m : Int) : Bool := decide (0 ≤ m) && decide (toK t k = m)
def scalK (t : List Ty) (k : Int) : Bool := decide (0 ≤ k) && plainB t k
def callK (t : List Ty) (sig : Int) (l : List Int) (k : Int) : Bool := isK t sig 3 && (decide ((tyN t sig).parts = l) && decide ((tyN t sig).elem = k))
/-- the type of a part -/
def partZ (x : Ty) (n : Int) : Int := if x.kind = 4 ∧ 0 ≤ n ∧ n < x.parts.length then (x.parts[n.toNat]?).getD 0 else if x.kind = 5 ∧ 0 ≤ n ∧ n < x.many then x.elem else -1
def memB (t : List Ty) (x : Ix) (l : List Int) : Bool :=
 if x.op = 14 then isK t (toK t (l.getD 0 0)) 4 && partK t x.typ (partZ (tyN t (toK t (l.getD 0 0))) x.n)
 else if x.op = 15 then isK t (toK t (l.getD 0 0)) 5 && (isK t (l.getD 1 0) 1 && partK t x.typ (tyN t (toK t (l.getD 0 0))).elem)
 else if x.op = 16 then scalK t (toK t (l.getD 0 0)) && decide (x.typ = toK t (l.getD 0 0))
 else scalK t (toK t (l.getD 0 0)) && decide (l.getD 1 0 = toK t (l.getD 0 0))
def sigAt (p : Px) (n : Int) : Int := ((p.funcs[n.toNat]?).getD default).sig
/-- may an instruction be, by the types of what it reads? -/
def typedB (p : Px) (x : Ix) (l : List Int) : Bool :=
 if x.op = 1 ∨ x.op = 20 then isK p.types x.typ 1
 else if x.op = 2 then isK p.types x.typ 2 || isK p.types x.typ 3
 else if x.op = 3 then decide (x.typ = sigAt p x.n)
 else if 4 ≤ x.op ∧ x.op ≤ 9 then isK p.types (l.getD 0 0) 1 && (isK p.types (l.getD 1 0) 1 && isK p.types x.typ 1)
 else if x.op = 10 then isK p.types (l.getD 0 0) 2 && (decide (l.getD 0 0 = l.getD 1 0) && isK p.types x.typ 1)
 else if x.op = 11 ∨ x.op = 12 then isK p.types x.typ 2
 else if x.op = 13 then isK p.types (l.getD 0 0) 2
 else if x.op = 21 then isK p.types (l.getD 0 0) 1
 else if 14 ≤ x.op ∧ x.op ≤ 17 then memB p.types x l
 else if x.op = 18 then callK p.types (sigAt p x.n) l x.typ
 else if x.op = 19 then callK p.types (l.getD 0 0) (l.drop 1) x.typ
 else l.all (fun n => decide (n = x.typ)) && scalK p.types x.typ
/-- have registers types? -/
def typesB (t : List Ty) (x : Fx) (us : List Int) : Bool := us.all fun r => decide (0 ≤ typeI t x r)
def typesL (t : List Ty) (x : Fx) (us : List Int) : List Int := if typesB t x us = true then us.map (typeI t x) else []
def setsB (par : Nat) (l : List Bx) (us : List Int) (b k : Int) : Bool := us.all fun r => isSetL par l r b k
/-- are a phi's blocks right, and its registers set at their ends? -/
def phiB (par : Nat) (l : List Bx) (b k : Nat) (x : Ix) : Bool :=
 decide (x.frm = ints (aheadL l b)) && (decide (k = 0 ∨ (insOf l b (k - 1)).op = 22) && ((x.frm.zip x.args).all fun q => isSetL par l q.2 q.1 (insAt l q.1.toNat).length))
def rightB (p : Px) (f : Fx) (b k : Nat) : Bool :=
 typesB p.types f (usesOf (insOf f.blocks b k)) && (typedB p (insOf f.blocks b k) (typesL p.types f (usesOf (insOf f.blocks b k))) &&
  (if (insOf f.blocks b k).op = 22 then phiB (parOf p.types f.sig) f.blocks b k (insOf f.blocks b k) else setsB (parOf p.types f.sig) f.blocks (usesOf (insOf f.blocks b k)) b k))
def endB (p : Px) (f : Fx) (b : Nat) : Bool :=
 typesB p.types f (endsOf (endAt f.blocks b)) && (setsB (parOf p.types f.sig) f.blocks (endsOf (endAt f.blocks b)) b (insAt f.blocks b).length && (decide ((0 : Int) ∉ toE (endAt f.blocks b)) &&
  (if (endAt f.blocks b).kind = 2 then isK p.types ((typesL p.types f (endsOf (endAt f.blocks b))).getD 0 0) 1
   else if (endAt f.blocks b).kind = 3 then decide ((typesL p.types f (endsOf (endAt f.blocks b))).getD 0 0 = (tyN p.types f.sig).elem) else true)))
def fnB (p : Px) (f : Fx) : Bool :=
 decide ((reachedL f.blocks).length = f.blocks.length) && ((List.range f.blocks.length).all fun b => ((List.range (insAt f.blocks b).length).all fun k => rightB p f b k) && endB p f b)
def firstB (p : Px) : Bool := decide ((tyN p.types (sigAt p 0)).parts.length = 0) && isK p.types (tyN p.types (sigAt p 0)).elem 1
def sndE (p : Px) : Int := if chkP p ≠ 0 then chkP p else if p.funcs.all (fnB p) = true ∧ firstB p = true then 0 else 120
def kindE (p : Px) (f r : Int) : Int := if sndE p ≠ 0 then sndE p else if placeE p f r ≠ 0 then placeE p f r else if typeI p.types (fnP p f) r < 0 then 6 else 0
def kindN (p : Px) (f r : Int) : Int := if kindE p f r = 0 then typeI p.types (fnP p f) r else 0
end Go.Proofs.YtpejpnffcepdlaaGreatDoor.SvQ
namespace Go.Proofs.YtpejpnffcepdlaaGreatDoor.SvK
open Go.RowKit Go.Lib SetP IntO TyM TyP TyB ShM ShP ShA ShB ShI ShJ FwP FwQ FwR FwK FdM FdQ SvQ

def CheckC : Prop := ∀ (p : Px) (v : Value) (w : World), PrAt w v p → Tab w → Small p → POk p →
 Calls Tryz.prog 12 #[v] w (NumR (sndE p) w)
def KindC : Prop := ∀ (p : Px) (f r : Int) (v : Value) (w : World), PrAt w v p → Tab w → Small p → POk p → I64 f → I64 r →
 Calls Tryz.prog 10 #[v, .int .i64 f, .int .i64 r] w (TwoR (kindN p f r) (kindE p f r) w)
end Go.Proofs.YtpejpnffcepdlaaGreatDoor.SvK
