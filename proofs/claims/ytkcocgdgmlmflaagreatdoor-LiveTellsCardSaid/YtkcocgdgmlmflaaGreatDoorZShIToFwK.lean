/- Walks over shape.Check, find and Regs. Plain facts on how blocks follow each other: where they go, what is reached, the order, rounds. Plain facts on which blocks all ways go through: rulers, and the ruler next to a block. Plain facts on which registers are read yet: to live at a place, step by step; the rounds over blocks. What the walks of laws over a program share, without the reference. Walk over shape.find. A function that may be: plain facts. What layer 9 answers of a program, in plain: errors, and lists of numbers. The order behind, from some blocks on, in plain: what is begun, and what stands in it. Walks over fescueref09.In, To, asked, Next. Functions, and blocks' ends, in memory, in every world behind. The first of those ahead, in plain. Plain facts: the rounds of fescueref09.Come, step by step. Walk over fescueref09.Come. The first numbers of a kind, in plain. A walk over fescueref09.Reached. Plain facts on a search through a graph of few vertices: a list that grows by what its own members go to. What is asked of the package flow: its functions' contracts, as propositions. -/
import Derived.Test.YtkcocgdgmlmflaaGreatDoorZShFToShRV
import Derived.Test.YtkcocgdgmlmflaaGreatDoorZTyEToTyS
import Derived.Test.YtkcocgdgmlmflaaGreatDoorZTyMToShN
import Derived.Test.YtkcocgdgmlmflaaGreatDoorZIntOToAft
import Derived.Test.YtkcocgdgmlmflaaGreatDoorZFwRToTyRT
import Derived.BigRegion
import Derived.Test.YtkcocgdgmlmflaaGreatDoorZShA
namespace Go.Proofs.YtkcocgdgmlmflaaGreatDoor.ShI
open Go.RowKit Go.Lib SetP IntO TyM TyP TyB TyC ShM ShP ShA ShB ShC ShE ShQ ShF ShG ShH

/-- the kinds of a program's numbers -/
def POk (p : Px) : Prop := ∀ f ∈ p.funcs, ∀ b ∈ f.blocks, (0 ≤ b.en.kind ∧ b.en.kind ≤ 255) ∧ ∀ y ∈ b.ins, 0 ≤ y.op ∧ y.op ≤ 255
def chkP (p : Px) : Int := if chkT p.types ≠ 0 then chkT p.types else if p.funcs.length < 1 ∨ 8 < p.funcs.length then 60 else if p.funcs.all (mayF p.types p.funcs.length) = true then 0 else 60
def findP (p : Px) (f : Int) : Int := if chkP p ≠ 0 then chkP p else if 0 ≤ f ∧ f < p.funcs.length then 0 else 2
theorem all_take {α : Type} {q : α → Bool} {l : List α} {k : Nat} (hk : k < l.length) (h : (l.take k).all q = true) (hp : q l[k] = true) : (l.take (k + 1)).all q = true := by
  rw [List.take_succ_eq_append_getElem hk, List.all_append, h]
  simp [hp]
theorem all_not {α : Type} {q : α → Bool} {l : List α} {k : Nat} (hk : k < l.length) (hp : q l[k] = false) : ¬ l.all q = true := fun h => by
  have := List.all_eq_true.1 h _ (List.getElem_mem hk)
  rw [hp] at this; cases this

set_option maxRecDepth 100000 in
set_option maxHeartbeats 8000000 in
theorem check_calls (p : Px) (v : Value) (w : World) (hp : PrAt w v p) (htab : Tab w) (hs : Small p) (hok : POk p) :
    Calls Tryz.prog 64 #[v] w (NumR (chkP p) w) := by
  obtain ⟨vt, vf, rfl, ht, hf⟩ := hp
  have hb0 := alloc_below w (.cells #[vt, vf] 25)
  have HCK := hid (TyS.check_calls p.types vt _ (ht.below hb0))
  have HT := hid ht
  have HF := hid hf
  have HTAB := hid htab
  have HB0 := hid hb0
  have HS := hid hs
  have HOK := hid hok
  obtain ⟨ta, tc, rfl⟩ := ht.slice
  obtain ⟨fa, fc, rfl, hfl⟩ := hf.slice
  have HD : Hid (chkP p = if chkT p.types ≠ 0 then chkT p.types else if p.funcs.length < 1 ∨ 8 < p.funcs.length then 60 else if p.funcs.all (mayF p.types p.funcs.length) = true then 0 else 60) := rfl
  clear ht hf htab hb0 hs hok
  generalize chkP p = ans at *
  by_cases hc : chkT p.types = 0
  rotate_left
  · rw [if_pos hc] at HD
    have e0 : (chkT p.types != 0) = true := by simpa using hc
    generalize chkT p.types = ct at *
    clear HT HF HTAB HS HOK
    generalize p.types.length = n1 at *
    generalize p.funcs.length = n2 at *
    go_enter Tryz.func64, Tryz.ntmps64
    go_wp2_with fail
    refine HCK.out.mono ?_
    rintro e w1 ⟨rfl, hb1⟩
    have hbe := HB0.out.trans (hb1.mono HB0.out.size)
    clear HCK hb1 hc
    go_wp2
    go_ret
    exact ⟨by rw [HD.out]; rfl, hbe⟩
  rw [if_neg (fun h => h hc)] at HD
  rw [hc] at HCK
  clear hc
  by_cases hn : p.funcs.length < 1 ∨ 8 < p.funcs.length
  · rw [if_pos hn] at HD
    clear HT HF HTAB HS HOK
    generalize p.types.length = n1 at *
    generalize p.funcs.length = n2 at *
    by_cases hn1 : (n2 : Int) < 1
    · skip
      go_enter Tryz.func64, Tryz.ntmps64
      go_wp2_with fail
      refine HCK.out.mono ?_
      rintro e w1 ⟨rfl, hb1⟩
      obtain ⟨f1, _, s1, _⟩ := copyF (alloc_new _ _) hb1 (by simp only [World.size_alloc]; omega)
      have hbe := HB0.out.trans (hb1.mono HB0.out.size)
      have p0 := f1 0 (by simp); have p1 := f1 1 (by simp)
      simp only [List.getElem_toArray, List.getElem_cons_succ, List.getElem_cons_zero] at p0 p1
      clear HCK hb1 f1 hn
      go_wp2
      all_goals (try (exfalso; omega))
      go_ret
      exact ⟨by rw [HD.out]; rfl, hbe⟩
    · have h17 : (8 : Int) < n2 := by omega
      go_enter Tryz.func64, Tryz.ntmps64
      go_wp2_with fail
      refine HCK.out.mono ?_
      rintro e w1 ⟨rfl, hb1⟩
      obtain ⟨f1, _, s1, _⟩ := copyF (alloc_new _ _) hb1 (by simp only [World.size_alloc]; omega)
      have hbe := HB0.out.trans (hb1.mono HB0.out.size)
      have p0 := f1 0 (by simp); have p1 := f1 1 (by simp)
      simp only [List.getElem_toArray, List.getElem_cons_succ, List.getElem_cons_zero] at p0 p1
      clear HCK hb1 f1 hn
      go_wp2
      all_goals (try (exfalso; omega))
      go_ret
      exact ⟨by rw [HD.out]; rfl, hbe⟩
  rw [if_neg hn] at HD
  have g1 : ¬ (p.funcs.length : Int) < 1 := by omega
  have g8 : ¬ (8 : Int) < p.funcs.length := by omega
  have hn10 : p.funcs.length ≤ 10 := by omega
  clear hn
  go_enter Tryz.func64, Tryz.ntmps64
  go_wp2_with fail
  refine HCK.out.mono ?_
  rintro e w1 ⟨rfl, hb1⟩
  have hbe := HB0.out.trans (hb1.mono HB0.out.size)
  obtain ⟨f1, _, s1, k1⟩ := copyF (alloc_new _ _) hb1 (by simp only [World.size_alloc]; omega)
  have p0 := f1 0 (by simp); have p1 := f1 1 (by simp)
  simp only [List.getElem_toArray, List.getElem_cons_succ, List.getElem_cons_zero] at p0 p1
  have HK1 := hid k1
  have HBE := hid hbe
  clear HCK hb1 f1 k1 hbe
  go_wp2_with fail
  all_goals (try (exfalso; omega))
  go_loopg [25] p.funcs.length (fun gk i wr => ∃ k : Nat, k + gk = p.funcs.length ∧ i = .int .i64 k ∧ (p.funcs.take k).all (mayF p.types p.funcs.length) = true ∧ Below w1.heap.size w1 wr)
  case atStart => exact ⟨0, by omega, rfl, rfl, Below.refl _ _⟩
  case round =>
    obtain ⟨k, hk, rfl, hall, hbr⟩ := hrel
    have HK := hid hk
    have HALL := hid hall
    have hbw := HBE.out.trans (hbr.mono HBE.out.size)
    clear p0 p1
    obtain ⟨f1, _, s1, _⟩ := copyF HK1.out hbr (Array.getElem?_eq_some_iff.1 HK1.out).1
    have p0 := f1 0 (by simp); have p1 := f1 1 (by simp)
    simp only [List.getElem_toArray, List.getElem_cons_succ, List.getElem_cons_zero] at p0 p1
    clear hall f1
    by_cases hlt : k < p.funcs.length
    · obtain ⟨b, off, rfl, hbs, vb, c0, c1, hbl⟩ := (HF.out.below fnStays hbw).at k hlt
      have hb2 := alloc_below wr (.cells #[.int .i64 p.funcs[k].sig, vb] 42)
      have hmem := List.getElem_mem hlt
      have HC := hid (mayFunc_calls p.types p.funcs.length p.funcs[k] (.slice ta p.types.length tc) vb (some ⟨b, off, none⟩) fc _ ((HT.out.below hbw).below hb2) (hbl.below blkStays hb2) ((HTAB.out.on hbw).on hb2) (HS.out.many _ hmem) HS.out.parts (HOK.out _ hmem))
      have HA := hid (all_take (q := mayF p.types p.funcs.length) hlt HALL.out)
      have HN := hid (all_not (q := mayF p.types p.funcs.length) hlt)
      have hbr2 := hbr.trans (hb2.mono hbr.size)
      obtain ⟨va, vc, rfl, _⟩ := hbl.slice
      have HBR := hid hbr2
      clear hbl hk hmem hbr hb2 hbr2
      generalize mayF p.types p.funcs.length p.funcs[k] = q at *
      generalize p.funcs[k] = x at *
      cases q with
      | false =>
        have HN2 := hid (HN.out rfl)
        clear HA HN
        go_wp2_with fail
        refine HC.out.mono ?_
        rintro e w3 ⟨rfl, hb3⟩
        have hbe3 := HBR.out.trans (hb3.mono HBR.out.size)
        clear HC hb3
        go_wp2
        go_ret
        exact ⟨by rw [HD.out, if_neg HN2.out]; rfl, HBE.out.trans (hbe3.mono HBE.out.size)⟩
      | true =>
        have HA2 := hid (HA.out rfl)
        clear HA HN
        go_wp2_with fail
        refine HC.out.mono ?_
        rintro e w3 ⟨rfl, hb3⟩
        have hbe3 := HBR.out.trans (hb3.mono HBR.out.size)
        clear HC hb3
        go_wp2
        go_roundg (gk - 1)
        case measure => have := HK.out; omega
        case rel => exact ⟨k + 1, by have := HK.out; omega, by go_num, HA2.out, hbe3⟩
    · obtain rfl : k = p.funcs.length := by omega
      have HA2 : Hid (ans = 0) := by
        show _ = _
        have := HALL.out
        rw [List.take_length] at this
        rw [HD.out, if_pos this]
      clear hk
      go_wp2
      go_ret
      exact ⟨by rw [HA2.out]; rfl, hbw⟩

end Go.Proofs.YtkcocgdgmlmflaaGreatDoor.ShI
namespace Go.Proofs.YtkcocgdgmlmflaaGreatDoor.FwP
open TyM ShM ShP ShE ShH ShI ShN FwM FwC

/-- the blocks that an end names -/
def toE (x : Ex) : List Int := if x.kind = 1 ∨ (x.kind = 2 ∧ x.to = x.els) then [x.to] else if x.kind = 2 then [x.to, x.els] else []
def endAt (l : List Bx) (i : Nat) : Ex := (l[i]?.getD default).en
def succ (l : List Bx) (i : Nat) : List Nat := if i < l.length then (toE (endAt l i)).map Int.toNat else []
/-- ends that name blocks that there are -/
def Low (l : List Bx) : Prop := ∀ i, i < l.length → ∀ j ∈ toE (endAt l i), 0 ≤ j ∧ j < l.length
theorem succ_lt {l : List Bx} (h : Low l) : ∀ i, i < l.length → ∀ j ∈ succ l i, j < l.length := by
  intro i hi j hj
  unfold succ at hj
  rw [if_pos hi] at hj
  obtain ⟨x, hx, rfl⟩ := List.mem_map.1 hj
  have := h i hi x hx
  omega
theorem succ_mem {l : List Bx} (h : Low l) {i j : Nat} (hi : i < l.length) : j ∈ succ l i ↔ (j : Int) ∈ toE (endAt l i) := by
  unfold succ
  rw [if_pos hi, List.mem_map]
  constructor
  · rintro ⟨x, hx, rfl⟩
    have := h i hi x hx
    rwa [Int.toNat_of_nonneg this.1]
  · intro hx
    exact ⟨_, hx, by omega⟩
theorem to_end {nr nb : Int} {x : Ex} (h : mayER nr nb x = true) : ∀ j ∈ toE x, 0 ≤ j ∧ j < nb := by
  intro j hj
  unfold toE at hj
  unfold mayER at h
  split at h
  · rename_i h1
    rw [if_pos (.inl h1)] at hj
    simp only [Bool.and_eq_true] at h
    rw [List.mem_singleton.1 hj]
    exact lowB_iff.1 h.2 x.to (by simp)
  split at h
  · simp only [Bool.and_eq_true] at h
    split at hj
    · rw [List.mem_singleton.1 hj]
      exact lowB_iff.1 h.2 x.to (by simp)
    · exact lowB_iff.1 h.2 j hj
  split at h
  · rename_i h1 h2 h3
    rw [if_neg (by omega), if_neg (by omega)] at hj
    cases hj
  · cases h
/-- the blocks of a program that may be name blocks that there are; they are few, and there is one -/
theorem low_of {p : Px} {f : Fx} (h : chkP p = 0) (ho : POk p) (hf : f ∈ p.funcs) : Low f.blocks ∧ 0 < f.blocks.length ∧ f.blocks.length ≤ 16 := by
  unfold chkP at h
  split at h
  · rename_i hc; exact absurd h hc
  split at h
  · exact absurd h (by decide)
  split at h
  · rename_i hall
    have hmf := List.all_eq_true.1 hall f hf
    unfold mayF at hmf
    split at hmf
    · cases hmf
    split at hmf
    · cases hmf
    split at hmf
    · cases hmf
    rename_i hbl
    refine ⟨fun i hi j hj => ?_, by omega, by omega⟩
    have hm : f.blocks[i] ∈ f.blocks := List.getElem_mem hi
    have hbb := List.all_eq_true.1 hmf _ hm
    unfold mayBl at hbb
    simp only [Bool.and_eq_true] at hbb
    have he := hbb.1
    rw [mayE_eq (ho f hf _ hm).1.1] at he
    have hea : endAt f.blocks i = (f.blocks[i]).en := by unfold endAt; rw [List.getElem?_eq_getElem hi]; rfl
    rw [hea] at hj
    exact to_end he j hj
  · exact absurd h (by decide)

/-! what is reached, the order, rounds, of a function's blocks -/
def aheadL (l : List Bx) (b : Nat) : List Nat := (List.range l.length).filter fun i => decide (b ∈ succ l i)
def reachedL (l : List Bx) : List Nat := (List.range l.length).filter fun i => has (comeO (succ l) (-1) l.length [0]) i
def orderedL (l : List Bx) : List Nat := order (succ l) l.length
def roundsL (l : List Bx) (b : Nat) : Bool := has (comeO (succ l) (-1) l.length (succ l b)) b
theorem ahead_mem {l : List Bx} {a b : Nat} : a ∈ aheadL l b ↔ a < l.length ∧ b ∈ succ l a := by
  unfold aheadL
  rw [List.mem_filter, List.mem_range, decide_eq_true_iff]
theorem reached_mem {l : List Bx} (h : Low l) (h0 : 0 < l.length) (v : Nat) : v ∈ reachedL l ↔ FwM.Comes (succ l) 0 v := by
  unfold reachedL
  rw [List.mem_filter, List.mem_range, come_iff (succ_lt h) (fun a ha => by rw [List.mem_singleton.1 ha]; exact h0), way_comes (by decide)]
  constructor
  · rintro ⟨_, a, ha, hc⟩
    rw [List.mem_singleton.1 ha] at hc
    exact hc
  · intro hc
    exact ⟨hc.lt (succ_lt h) h0, 0, by simp, hc⟩
theorem rounds_iff {l : List Bx} (h : Low l) {b : Nat} (hb : b < l.length) : roundsL l b = true ↔ ∃ a ∈ succ l b, FwM.Comes (succ l) a b := by
  unfold roundsL
  rw [come_iff (succ_lt h) (succ_lt h b hb), way_comes (by decide)]
/-- what is reached is rising -/
theorem reached_up (l : List Bx) : (reachedL l).Pairwise (· < ·) := List.Pairwise.filter _ List.pairwise_lt_range
theorem pair_nodup {l : List Nat} (h : l.Pairwise (· < ·)) : l.Nodup := h.imp fun h e => absurd h (by omega)
theorem nodup_same : ∀ {a b : List Nat}, a.Nodup → b.Nodup → (∀ v, v ∈ a ↔ v ∈ b) → a.length = b.length
  | [], b, _, _, h => by
    cases b with
    | nil => rfl
    | cons x b => exact absurd ((h x).2 (by simp)) (by simp)
  | x :: a, b, ha, hb, h => by
    have hx : x ∈ b := (h x).1 (by simp)
    have ha' := List.nodup_cons.1 ha
    have h1 := nodup_same ha'.2 (hb.erase x) (fun v => by
      rw [hb.mem_erase_iff]
      constructor
      · intro hv
        exact ⟨fun e => ha'.1 (e ▸ hv), (h v).1 (by simp [hv])⟩
      · rintro ⟨hne, hv⟩
        rcases List.mem_cons.1 ((h v).2 hv) with e | hv
        · exact absurd e hne
        · exact hv)
    rw [List.length_erase_of_mem hx] at h1
    have : 0 < b.length := List.length_pos_of_mem hx
    simp only [List.length_cons]
    omega
/-- the order has as many as are reached -/
theorem order_len {l : List Bx} (h : Low l) (h0 : 0 < l.length) : (orderedL l).length = (reachedL l).length :=
  nodup_same (order_nodup h0 (succ_lt h)) (pair_nodup (reached_up l)) fun v => (order_mem h0 (succ_lt h) v).trans (reached_mem h h0 v).symm
/-- what those go to that are reached is reached; and only block 0 besides -/
theorem reached_step {l : List Bx} (h : Low l) (h0 : 0 < l.length) (b : Nat) : b ∈ reachedL l ↔ b = 0 ∨ ∃ a ∈ aheadL l b, a ∈ reachedL l := by
  rw [reached_mem h h0]
  constructor
  · intro hc
    cases hc with
    | here => exact .inl rfl
    | step hb hm =>
      exact .inr ⟨_, ahead_mem.2 ⟨hb.lt (succ_lt h) h0, hm⟩, (reached_mem h h0 _).2 hb⟩
  · rintro (rfl | ⟨a, ha, hr⟩)
    · exact .here
    · exact .step ((reached_mem h h0 a).1 hr) (ahead_mem.1 ha).2
end Go.Proofs.YtkcocgdgmlmflaaGreatDoor.FwP
namespace Go.Proofs.YtkcocgdgmlmflaaGreatDoor.FdM
open ShM FwM FwC FwP

section
variable {t : Nat → List Nat}
/-- does one that is reached rule another one? -/
def Rules (t : Nat → List Nat) (a b : Nat) : Prop := FwM.Comes t 0 b ∧ (a = b ∨ (FwM.Comes t 0 a ∧ ¬ FwC.Way t a [0] b))
theorem way_reach {a b : Nat} (h : FwC.Way t a [0] b) : FwM.Comes t 0 b := by
  induction h with
  | start ha _ => rw [List.mem_singleton.1 ha]; exact .here
  | step _ hc _ ih => exact .step ih hc
theorem way_ne {a b : Nat} (h : FwC.Way t a [0] b) : b ≠ a := by
  cases h with
  | start _ h => omega
  | step _ _ h => omega
theorem Rules.reach {a b : Nat} (h : Rules t a b) : FwM.Comes t 0 a := by
  obtain ⟨h1, rfl | h2⟩ := h
  · exact h1
  · exact h2.1
theorem rules_self {b : Nat} (h : FwM.Comes t 0 b) : Rules t b b := ⟨h, .inl rfl⟩
theorem not_rules {a b : Nat} (ha : FwM.Comes t 0 a) (hb : FwM.Comes t 0 b) (h : ¬ Rules t a b) : FwC.Way t a [0] b :=
  Classical.byContradiction fun hw => h ⟨hb, .inr ⟨ha, hw⟩⟩
/-- block 0 rules all -/
theorem rules_zero {b : Nat} (h : FwM.Comes t 0 b) : Rules t 0 b := by
  refine ⟨h, .inr ⟨.here, fun hw => ?_⟩⟩
  have : ∀ {v}, FwC.Way t (0 : Nat) [0] v → False := by
    intro v hv
    induction hv with
    | start ha hne => rw [List.mem_singleton.1 ha] at hne; exact hne rfl
    | step _ _ _ ih => exact ih
  exact this hw
/-- nothing but itself rules block 0 -/
theorem rules_first {a : Nat} (h : Rules t a 0) : a = 0 := by
  rcases h.2 with h | ⟨_, h⟩
  · exact h
  · refine Classical.byContradiction fun hne => h (.start (by simp) ?_)
    omega
theorem Rules.trans {a b c : Nat} (h : Rules t a b) (k : Rules t b c) : Rules t a c := by
  obtain ⟨h1, rfl | h2⟩ := h
  · exact k
  obtain ⟨k1, rfl | k2⟩ := k
  · exact ⟨h1, .inr h2⟩
  refine ⟨k1, .inr ⟨h2.1, fun hw => ?_⟩⟩
  have key : ∀ {v}, FwC.Way t a [0] v → FwC.Way t b [0] v ∨ FwC.Way t a [0] b := by
    intro v hv
    induction hv with
    | @start x hx hne =>
      by_cases e : x = b
      · exact .inr (e ▸ .start hx hne)
      · exact .inl (.start hx (by omega))
    | @step x y hx hy hne ih =>
      by_cases e : y = b
      · exact .inr (e ▸ .step hx hy hne)
      · rcases ih with ih | ih
        · exact .inl (.step ih hy (by omega))
        · exact .inr ih
  rcases key hw with h | h
  · exact k2.2 h
  · exact h2.2 h
theorem Rules.anti {a c : Nat} (h : Rules t a c) (k : Rules t c a) : a = c := by
  refine Classical.byContradiction fun hne => ?_
  have h2 := h.2.resolve_left hne
  have k2 := k.2.resolve_left fun e => hne e.symm
  have key : ∀ {v}, FwM.Comes t 0 v → FwC.Way t c [0] a ∨ FwC.Way t a [0] c ∨ (FwC.Way t a [0] v ∧ FwC.Way t c [0] v) := by
    intro v hv
    induction hv with
    | here =>
      by_cases e1 : (0 : Nat) = a
      · exact .inl (e1 ▸ .start (by simp) (by omega))
      by_cases e2 : (0 : Nat) = c
      · exact .inr (.inl (e2 ▸ .start (by simp) (by omega)))
      · exact .inr (.inr ⟨.start (by simp) (by omega), .start (by simp) (by omega)⟩)
    | @step x y _ hy ih =>
      rcases ih with ih | ih | ⟨i1, i2⟩
      · exact .inl ih
      · exact .inr (.inl ih)
      · by_cases e1 : y = a
        · exact .inl (e1 ▸ .step i2 hy (by omega))
        by_cases e2 : y = c
        · exact .inr (.inl (e2 ▸ .step i1 hy (by omega)))
        · exact .inr (.inr ⟨.step i1 hy (by omega), .step i2 hy (by omega)⟩)
  rcases key h2.1 with h | h | h
  · exact k2.2 h
  · exact h2.2 h
  · exact way_ne h.1 rfl
/-- of two that rule one, one rules the other -/
theorem Rules.total {a b c : Nat} (h : Rules t a c) (k : Rules t b c) : Rules t a b ∨ Rules t b a := by
  refine Classical.byContradiction fun hno => ?_
  have n1 : ¬ Rules t a b := fun e => hno (.inl e)
  have n2 : ¬ Rules t b a := fun e => hno (.inr e)
  have w1 := not_rules h.reach k.reach n1
  have w2 := not_rules k.reach h.reach n2
  have hab : b ≠ a := way_ne w1
  have key : ∀ {v}, FwM.Comes t 0 v → FwC.Way t a [0] v ∨ FwC.Way t b [0] v := by
    intro v hv
    induction hv with
    | here =>
      by_cases e1 : (0 : Nat) = a
      · exact .inr (.start (by simp) (by omega))
      · exact .inl (.start (by simp) (by omega))
    | @step x y _ hy ih =>
      rcases ih with ih | ih
      · by_cases e : y = a
        · exact .inr (e ▸ w2)
        · exact .inl (.step ih hy (by omega))
      · by_cases e : y = b
        · exact .inl (e ▸ w1)
        · exact .inr (.step ih hy (by omega))
  have hac : a ≠ c := fun e => n2 (e ▸ k)
  have hbc : b ≠ c := fun e => n1 (e ▸ h)
  rcases key h.1 with h' | h'
  · exact (h.2.resolve_left hac).2 h'
  · exact (k.2.resolve_left hbc).2 h'
/-- the ruler next to a block: rules it, is another one, and all these rule it -/
def NextTo (t : Nat → List Nat) (a b : Nat) : Prop := a ≠ b ∧ Rules t a b ∧ ∀ c, c ≠ b → Rules t c b → Rules t c a
theorem next_one {a c b : Nat} (h : NextTo t a b) (k : NextTo t c b) : a = c := (k.2.2 a h.1 h.2.1).anti (h.2.2 c k.1 k.2.1)
theorem rules_lt {n a b : Nat} (ht : ∀ i, i < n → ∀ j ∈ t i, j < n) (h0 : 0 < n) (h : Rules t a b) : a < n := h.reach.lt ht h0
open Classical in
theorem next_some {n b : Nat} (ht : ∀ i, i < n → ∀ j ∈ t i, j < n) (h0 : 0 < n) (hb : FwM.Comes t 0 b) (hne : b ≠ 0) : ∃ a, NextTo t a b := by
  have key : ∀ (l : List Nat), (∃ c ∈ l, c ≠ b ∧ Rules t c b) → ∃ a, (a ≠ b ∧ Rules t a b) ∧ ∀ c ∈ l, c ≠ b → Rules t c b → Rules t c a := by
    intro l
    induction l with
    | nil => rintro ⟨c, hc, _⟩; cases hc
    | cons x l ih =>
      intro hx
      by_cases hl : ∃ c ∈ l, c ≠ b ∧ Rules t c b
      · obtain ⟨a, ha, hall⟩ := ih hl
        by_cases hxx : x ≠ b ∧ Rules t x b
        · rcases ha.2.total hxx.2 with h | h
          · refine ⟨x, hxx, fun c hc h1 h2 => ?_⟩
            rcases List.mem_cons.1 hc with rfl | hc
            · exact rules_self h2.reach
            · exact (hall c hc h1 h2).trans h
          · refine ⟨a, ha, fun c hc h1 h2 => ?_⟩
            rcases List.mem_cons.1 hc with rfl | hc
            · exact h
            · exact hall c hc h1 h2
        · refine ⟨a, ha, fun c hc h1 h2 => ?_⟩
          rcases List.mem_cons.1 hc with rfl | hc
          · exact absurd ⟨h1, h2⟩ hxx
          · exact hall c hc h1 h2
      · obtain ⟨c, hc, h⟩ := hx
        rcases List.mem_cons.1 hc with rfl | hc
        · refine ⟨c, h, fun d hd h1 h2 => ?_⟩
          rcases List.mem_cons.1 hd with rfl | hd
          · exact rules_self h2.reach
          · exact absurd ⟨d, hd, h1, h2⟩ hl
        · exact absurd ⟨c, hc, h⟩ hl
  obtain ⟨a, ha, hall⟩ := key (List.range n) ⟨0, List.mem_range.2 h0, fun e => hne e.symm, rules_zero hb⟩
  exact ⟨a, ha.1, ha.2, fun c h1 h2 => hall c (List.mem_range.2 (rules_lt ht h0 h2)) h1 h2⟩
/-- a block's rulers: itself, and those of the one next to it -/
theorem rules_next {a b x : Nat} (h : NextTo t a b) : Rules t x b ↔ x = b ∨ Rules t x a := by
  constructor
  · intro hx
    by_cases e : x = b
    · exact .inl e
    · exact .inr (h.2.2 x e hx)
  · rintro (rfl | hx)
    · exact rules_self h.2.1.1
    · exact hx.trans h.2.1
end

/-! of a function's blocks -/
def ruledL (l : List Bx) (a b : Nat) : Bool := decide (a = b) || (has (comeO (succ l) (-1) l.length [0]) a && !has (comeO (succ l) a l.length [0]) b)
theorem ruled_iff {l : List Bx} (h : Low l) (h0 : 0 < l.length) {a b : Nat} (hb : FwM.Comes (succ l) 0 b) : ruledL l a b = true ↔ Rules (succ l) a b := by
  have hf : ∀ x ∈ [0], x < l.length := fun x hx => by rw [List.mem_singleton.1 hx]; exact h0
  have e1 : has (comeO (succ l) (-1) l.length [0]) a = true ↔ FwM.Comes (succ l) 0 a := by
    rw [come_iff (succ_lt h) hf, way_comes (by decide)]
    simp
  have e2 := come_iff (but := (a : Int)) (succ_lt h) hf b
  unfold ruledL Rules
  simp only [Bool.or_eq_true, decide_eq_true_eq, Bool.and_eq_true, Bool.not_eq_true', ← Bool.not_eq_true]
  rw [e1, e2]
  constructor
  · intro hh; exact ⟨hb, hh⟩
  · intro hh; exact hh.2
/-- how many rule one -/
def rulersN (l : List Bx) (b : Nat) : Nat := (List.range l.length).countP fun a => ruledL l a b
theorem rulers_le (l : List Bx) (b : Nat) : rulersN l b ≤ l.length := by
  have := List.countP_le_length (p := fun a => ruledL l a b) (l := List.range l.length)
  rw [List.length_range] at this
  exact this
/-- fewer rule the one next to a block -/
theorem rulers_less {l : List Bx} (h : Low l) (h0 : 0 < l.length) {a b : Nat} (k : NextTo (succ l) a b) : rulersN l a < rulersN l b := by
  have hb : FwM.Comes (succ l) 0 b := k.2.1.1
  have ha : FwM.Comes (succ l) 0 a := k.2.1.reach
  have hbl : b < l.length := hb.lt (succ_lt h) h0
  have key : ∀ (r : List Nat), (∀ x ∈ r, ruledL l x a = true → ruledL l x b = true) → r.countP (fun x => ruledL l x a) ≤ r.countP (fun x => ruledL l x b) ∧ (b ∈ r → r.countP (fun x => ruledL l x a) < r.countP (fun x => ruledL l x b)) := by
    have hno : ruledL l b a = false := by
      cases e : ruledL l b a with
      | false => rfl
      | true => exact absurd (((ruled_iff h h0 ha).1 e).anti k.2.1).symm k.1
    have hyes : ruledL l b b = true := (ruled_iff h h0 hb).2 (rules_self hb)
    intro r
    induction r with
    | nil => intro _; exact ⟨Nat.le_refl _, fun h => by cases h⟩
    | cons x r ih =>
      intro hr
      obtain ⟨i1, i2⟩ := ih fun y hy => hr y (by simp [hy])
      rw [List.countP_cons, List.countP_cons]
      have hx := hr x (by simp)
      constructor
      · cases e1 : ruledL l x a with
        | false => simp; omega
        | true => rw [hx e1]; simp; omega
      · intro hm
        rcases List.mem_cons.1 hm with rfl | hm
        · rw [hno, hyes]; simp; omega
        · have := i2 hm
          cases e1 : ruledL l x a with
          | false => simp; omega
          | true => rw [hx e1]; simp; omega
  exact (key (List.range l.length) fun x _ hx => (ruled_iff h h0 hb).2 (((ruled_iff h h0 ha).1 hx).trans k.2.1)).2 (List.mem_range.2 hbl)
/-- the ruler next to a block; -1 of block 0 -/
def nextB (l : List Bx) (b a : Nat) : Bool := decide (a ≠ b) && (ruledL l a b && (List.range l.length).all fun c => decide (c = b) || (!ruledL l c b || ruledL l c a))
def rulerL (l : List Bx) (b : Nat) : Int := match (List.range l.length).find? (nextB l b) with
  | some a => a
  | none => -1
theorem nextB_iff {l : List Bx} (h : Low l) (h0 : 0 < l.length) {a b : Nat} (hb : FwM.Comes (succ l) 0 b) : nextB l b a = true ↔ NextTo (succ l) a b := by
  unfold nextB NextTo
  simp only [Bool.and_eq_true, decide_eq_true_eq, List.all_eq_true, List.mem_range, Bool.or_eq_true, Bool.not_eq_true', ← Bool.not_eq_true]
  rw [ruled_iff h h0 hb]
  constructor
  · rintro ⟨h1, h2, h3⟩
    refine ⟨h1, h2, fun c hc hr => ?_⟩
    rcases h3 c (rules_lt (succ_lt h) h0 hr) with e | e | e
    · exact absurd e hc
    · exact absurd ((ruled_iff h h0 hb).2 hr) e
    · exact (ruled_iff h h0 h2.reach).1 e
  · rintro ⟨h1, h2, h3⟩
    refine ⟨h1, h2, fun c _ => ?_⟩
    by_cases hc : c = b
    · exact .inl hc
    · by_cases hr : Rules (succ l) c b
      · exact .inr (.inr ((ruled_iff h h0 h2.reach).2 (h3 c hc hr)))
      · exact .inr (.inl fun e => hr ((ruled_iff h h0 hb).1 e))
theorem ruler_zero {l : List Bx} (h : Low l) (h0 : 0 < l.length) : rulerL l 0 = -1 := by
  unfold rulerL
  have : (List.range l.length).find? (nextB l 0) = none := by
    rw [List.find?_eq_none]
    intro a _ hn
    have := (nextB_iff h h0 .here).1 hn
    exact this.1 (rules_first this.2.1)
  rw [this]
theorem ruler_some {l : List Bx} (h : Low l) (h0 : 0 < l.length) {b : Nat} (hb : FwM.Comes (succ l) 0 b) (hne : b ≠ 0) : ∃ a : Nat, rulerL l b = a ∧ NextTo (succ l) a b := by
  obtain ⟨a, ha⟩ := next_some (succ_lt h) h0 hb hne
  unfold rulerL
  cases hf : (List.range l.length).find? (nextB l b) with
  | none =>
    have := List.find?_eq_none.1 hf a (List.mem_range.2 (rules_lt (succ_lt h) h0 ha.2.1))
    exact absurd ((nextB_iff h h0 hb).2 ha) this
  | some c => exact ⟨c, rfl, (nextB_iff h h0 hb).1 (List.find?_some hf)⟩
end Go.Proofs.YtkcocgdgmlmflaaGreatDoor.FdM
namespace Go.Proofs.YtkcocgdgmlmflaaGreatDoor.LvM
open ShM FwP FxL

section
variable (l : List Bx) (own : Nat → Nat → Nat) (r : Nat)
def insAt (b : Nat) : List Ix := (l[b]?.getD default).ins
/-- does an instruction read it, at its own place? -/
def readsI (x : Ix) : Bool := decide (x.op ≠ 22) && decide ((r : Int) ∈ usesOf x)
/-- does a phi of j read it at the end of b? -/
def byPhi (b j : Nat) : Bool := (insAt l j).any fun x => decide (x.op = 22) && decide (((b : Int), (r : Int)) ∈ x.frm.zip x.args)
/-- it lives: at the place k of the block b; behind the last place: at the block's end -/
inductive Lv : Nat → Nat → Prop
  | read {b k : Nat} {x : Ix} : (insAt l b)[k]? = some x → readsI r x = true → Lv b k
  | next {b k : Nat} : k < (insAt l b).length → own b k ≠ r → Lv b (k + 1) → Lv b k
  | ends {b : Nat} : (r : Int) ∈ endsOf (endAt l b) → Lv b (insAt l b).length
  | fall {b : Nat} : Lv b ((insAt l b).length + 1) → Lv b (insAt l b).length
  | go {b j : Nat} : j ∈ succ l b → Lv j 0 → Lv b ((insAt l b).length + 1)
  | phi {b j : Nat} : j ∈ succ l b → byPhi l r b j = true → Lv b ((insAt l b).length + 1)
end
variable {l : List Bx} {own : Nat → Nat → Nat} {r : Nat}
/-- at an instruction -/
theorem lv_ins {b k : Nat} {x : Ix} (hx : (insAt l b)[k]? = some x) : Lv l own r b k ↔ readsI r x = true ∨ (own b k ≠ r ∧ Lv l own r b (k + 1)) := by
  have hk := (List.getElem?_eq_some_iff.1 hx).1
  constructor
  · intro h
    generalize hj : k = j at h
    cases h with
    | read h1 h2 => subst hj; rw [hx] at h1; cases h1; exact .inl h2
    | next _ h2 h3 => subst hj; exact .inr ⟨h2, h3⟩
    | ends _ => omega
    | fall _ => omega
    | go _ _ => omega
    | phi _ _ => omega
  · rintro (h | ⟨h1, h2⟩)
    · exact .read hx h
    · exact .next hk h1 h2
/-- ahead of an end -/
theorem lv_end {b : Nat} : Lv l own r b (insAt l b).length ↔ (r : Int) ∈ endsOf (endAt l b) ∨ Lv l own r b ((insAt l b).length + 1) := by
  constructor
  · intro h
    generalize hj : (insAt l b).length = j at h
    cases h with
    | read h1 _ => have := (List.getElem?_eq_some_iff.1 h1).1; omega
    | next h1 _ _ => omega
    | ends h => exact .inl h
    | fall h => exact .inr h
    | go _ _ => omega
    | phi _ _ => omega
  · rintro (h | h)
    · exact .ends h
    · exact .fall h
/-- at a block's end -/
theorem lv_out {b : Nat} : Lv l own r b ((insAt l b).length + 1) ↔ ∃ j ∈ succ l b, Lv l own r j 0 ∨ byPhi l r b j = true := by
  constructor
  · intro h
    generalize hj : (insAt l b).length + 1 = j at h
    cases h with
    | read h1 _ => have := (List.getElem?_eq_some_iff.1 h1).1; omega
    | next h1 _ _ => omega
    | ends _ => omega
    | fall _ => omega
    | go h1 h2 => exact ⟨_, h1, .inl h2⟩
    | phi h1 h2 => exact ⟨_, h1, .inr h2⟩
  · rintro ⟨j, h1, h2 | h2⟩
    · exact .go h1 h2
    · exact .phi h1 h2

/-! within a block -/
/-- what becomes of it on from a place: some true: it is read; some false: it is set anew; none: neither, up to the block's end -/
def within (own : Nat → Nat → Nat) (r b : Nat) (en : Ex) : Nat → List Ix → Option Bool
  | _, [] => if (r : Int) ∈ endsOf en then some true else none
  | k, x :: xs => if readsI r x = true then some true else if own b k = r then some false else within own r b en (k + 1) xs
theorem within_lv : ∀ (xs : List Ix) (b k : Nat), (insAt l b).drop k = xs → k ≤ (insAt l b).length → (Lv l own r b k ↔ within own r b (endAt l b) k xs = some true ∨ (within own r b (endAt l b) k xs = none ∧ Lv l own r b ((insAt l b).length + 1)))
  | [], b, k, hd, hk => by
    have hlen : (insAt l b).length ≤ k := by
      have := congrArg List.length hd
      rw [List.length_drop] at this
      simp at this
      omega
    obtain rfl : k = (insAt l b).length := by omega
    rw [lv_end]
    unfold within
    by_cases h : (r : Int) ∈ endsOf (endAt l b)
    · simp [h]
    · simp [h]
  | x :: xs, b, k, hd, hk => by
    have hx : (insAt l b)[k]? = some x := by
      have := congrArg (fun z => z[0]?) hd
      simpa using this
    have hlt := (List.getElem?_eq_some_iff.1 hx).1
    have hd2 : (insAt l b).drop (k + 1) = xs := by
      rw [← List.drop_drop, hd]
      rfl
    rw [lv_ins hx, within_lv xs b (k + 1) hd2 hlt]
    conv => rhs; unfold within
    by_cases h1 : readsI r x = true
    · simp [h1]
    · by_cases h2 : own b k = r
      · simp [h1, h2]
      · simp [h1, h2]

/-! the rounds: of each block whether it lives at its beginning -/
def outB (l : List Bx) (r : Nat) (X : Nat → Bool) (b : Nat) : Bool := (succ l b).any fun j => X j || byPhi l r b j
def inB (l : List Bx) (own : Nat → Nat → Nat) (r : Nat) (X : Nat → Bool) (b : Nat) : Bool :=
  decide (b < l.length) && (match within own r b (endAt l b) 0 (insAt l b) with
    | some t => t
    | none => outB l r X b)
theorem out_mono {X Y : Nat → Bool} (h : ∀ v, X v = true → Y v = true) (b : Nat) (hb : outB l r X b = true) : outB l r Y b = true := by
  unfold outB at hb ⊢
  obtain ⟨j, hj, hv⟩ := List.any_eq_true.1 hb
  refine List.any_eq_true.2 ⟨j, hj, ?_⟩
  rcases Bool.or_eq_true_iff.1 hv with e | e
  · rw [h j e]; rfl
  · rw [e]; simp
theorem in_mono : Mono (inB l own r) := by
  intro X Y h v hv
  unfold inB at hv ⊢
  simp only [Bool.and_eq_true] at hv ⊢
  refine ⟨hv.1, ?_⟩
  have h2 := hv.2
  cases e : within own r v (endAt l v) 0 (insAt l v) with
  | some t => rw [e] at h2; exact h2
  | none => rw [e] at h2; exact out_mono h v h2
theorem in_lt (X : Nat → Bool) (v : Nat) (h : inB l own r X v = true) : v < l.length := by
  unfold inB at h
  simp only [Bool.and_eq_true, decide_eq_true_eq] at h
  exact h.1
/-- THE ROUNDS TELL WHERE IT LIVES AT A BEGINNING -/
theorem rounds_lv (hlow : Low l) {k : Nat} (hk : l.length ≤ k) {b : Nat} (hb : b < l.length) : rnd (inB l own r) k b = true ↔ Lv l own r b 0 := by
  constructor
  · refine rnd_least (S := fun b => Lv l own r b 0) (fun X hX v hv => ?_) k b
    unfold inB at hv
    simp only [Bool.and_eq_true] at hv
    have h2 := hv.2
    refine (within_lv (insAt l v) v 0 rfl (Nat.zero_le _)).2 ?_
    cases e : within own r v (endAt l v) 0 (insAt l v) with
    | some t =>
      rw [e] at h2
      simp only at h2
      subst h2
      exact .inl rfl
    | none =>
      rw [e] at h2
      refine .inr ⟨rfl, lv_out.2 ?_⟩
      obtain ⟨j, hj, hx⟩ := List.any_eq_true.1 h2
      rcases Bool.or_eq_true_iff.1 hx with e | e
      · exact ⟨j, hj, .inl (hX j e)⟩
      · exact ⟨j, hj, .inr e⟩
  · have hc := rnd_closed (in_mono (l := l) (own := own) (r := r)) in_lt hk
    generalize rnd (inB l own r) k = X at hc
    -- what lives at a place, by what the rounds tell of the block's end
    have key : ∀ {b k : Nat}, Lv l own r b k → b < l.length → (k ≤ (insAt l b).length → (within own r b (endAt l b) k ((insAt l b).drop k) = some true ∨ (within own r b (endAt l b) k ((insAt l b).drop k) = none ∧ outB l r X b = true))) ∧ (k = (insAt l b).length + 1 → outB l r X b = true) := by
      intro b k h
      induction h with
      | @read b k x hx hr =>
        intro _
        have hlt := (List.getElem?_eq_some_iff.1 hx).1
        refine ⟨fun _ => .inl ?_, fun e => by omega⟩
        rw [List.drop_eq_getElem_cons hlt]
        unfold within
        rw [show (insAt l b)[k] = x from (List.getElem?_eq_some_iff.1 hx).2, if_pos hr]
      | @next b k hlt hne _ ih =>
        intro hb
        refine ⟨fun _ => ?_, fun e => by omega⟩
        have i1 := (ih hb).1 hlt
        rw [List.drop_eq_getElem_cons hlt]
        unfold within
        by_cases hr : readsI r (insAt l b)[k] = true
        · rw [if_pos hr]; exact .inl rfl
        · rw [if_neg hr, if_neg hne]; exact i1
      | @ends b he =>
        intro _
        refine ⟨fun _ => .inl ?_, fun e => by omega⟩
        rw [List.drop_length]
        unfold within
        rw [if_pos he]
      | @fall b _ ih =>
        intro hb
        have i2 := (ih hb).2 rfl
        refine ⟨fun _ => ?_, fun e => by omega⟩
        rw [List.drop_length]
        unfold within
        by_cases he : (r : Int) ∈ endsOf (endAt l b)
        · rw [if_pos he]; exact .inl rfl
        · rw [if_neg he]; exact .inr ⟨rfl, i2⟩
      | @go b j hj _ ih =>
        intro hb
        have hjl := succ_lt hlow b hb j hj
        refine ⟨fun e => by omega, fun _ => List.any_eq_true.2 ⟨j, hj, ?_⟩⟩
        have i1 := (ih hjl).1 (Nat.zero_le _)
        rw [List.drop_zero] at i1
        have : X j = true := hc j (by
          unfold inB
          rw [Bool.and_eq_true]
          refine ⟨by simpa using hjl, ?_⟩
          rcases i1 with e | ⟨e, ho⟩
          · rw [e]
          · rw [e]; exact ho)
        rw [this]
        rfl
      | @phi b j hj hp =>
        intro _
        exact ⟨fun e => by omega, fun _ => List.any_eq_true.2 ⟨j, hj, by rw [hp]; simp⟩⟩
    intro h
    have i1 := (key h hb).1 (Nat.zero_le _)
    rw [List.drop_zero] at i1
    refine hc b ?_
    unfold inB
    rw [Bool.and_eq_true]
    refine ⟨by simpa using hb, ?_⟩
    rcases i1 with e | ⟨e, ho⟩
    · rw [e]
    · rw [e]; exact ho
end Go.Proofs.YtkcocgdgmlmflaaGreatDoor.LvM
namespace Go.Proofs.YtkcocgdgmlmflaaGreatDoor.LwT
open Go.RowKit Go.Lib SetP IntO TyM TyP TyB ShM ShP ShA ShB Aft

/-- a program in a block of its own -/
theorem kept_new (w : World) (a b : Value) : ∃ W2, W2 = w.alloc (.cells #[a, b] 25) ∧ Aft w W2 ∧ W2.heap[w.heap.size]? = some (.cells #[a, b] 25 (0, 0)) :=
  ⟨_, rfl, (Aft.refl w).alloc _, alloc_new w _⟩
theorem i64_wf {n : Int} (h : (Lit.int .i64 n).wf = true) : -9223372036854775808 ≤ n ∧ n ≤ 9223372036854775807 := by
  simpa [Lit.wf, IntKind.min, IntKind.max, IntKind.signed, IntKind.bits] using h
end Go.Proofs.YtkcocgdgmlmflaaGreatDoor.LwT
namespace Go.Proofs.YtkcocgdgmlmflaaGreatDoor.ShI
open Go.RowKit Go.Lib SetP IntO TyM TyP TyB TyC ShM ShP ShA ShB ShC ShE ShQ ShF ShG ShH

set_option maxRecDepth 100000 in
set_option maxHeartbeats 2000000 in
theorem find_calls (p : Px) (f : Int) (v : Value) (w : World) (hp : PrAt w v p) (htab : Tab w) (hs : Small p) (hok : POk p) :
    Calls Tryz.prog 46 #[v, .int .i64 f] w (NumR (findP p f) w) := by
  have hp0 := hp
  obtain ⟨vt, vf, rfl, ht, hf⟩ := hp
  have hb0 := alloc_below w (.cells #[vt, vf] 25)
  have HC := hid (check_calls p _ _ (hp0.below hb0) (htab.on hb0) hs hok)
  obtain ⟨ta, tc, rfl⟩ := ht.slice
  obtain ⟨fa, fc, rfl, hfl⟩ := hf.slice
  have HD : Hid (findP p f = if chkP p ≠ 0 then chkP p else if 0 ≤ f ∧ f < p.funcs.length then 0 else 2) := rfl
  clear ht hf htab hs hok hp0
  generalize findP p f = ans at *
  generalize chkP p = ct at *
  generalize p.types.length = n1 at *
  generalize p.funcs.length = n2 at *
  by_cases hc : ct = 0
  rotate_left
  · rw [if_pos hc] at HD
    have e0 : (ct != 0) = true := by simpa using hc
    clear hc
    go_enter Tryz.func46, Tryz.ntmps46
    go_wp2_with fail
    refine HC.out.mono ?_
    rintro e w1 ⟨rfl, hb1⟩
    have hbe := hb0.trans (hb1.mono hb0.size)
    clear HC hb1
    go_wp2
    go_ret
    exact ⟨by rw [HD.out]; rfl, hbe⟩
  subst hc
  rw [if_neg (fun h => h rfl)] at HD
  have HB := hid (fun (wx : World) => ShE.below_calls n2 (.slice (some ⟨wx.heap.size, 0, none⟩) 1 1) [f] (wx.alloc (.cells #[.int .i64 f] 3)) (ints_one (cell_new _ _ _ _ rfl) (size_new _ _ _ rfl)))
  rw [low_one] at HB
  cases hd : decide (0 ≤ f ∧ f < (n2 : Int)) with
  | false =>
    rw [hd] at HB
    rw [if_neg (of_decide_eq_false hd)] at HD
    clear hd
    go_enter Tryz.func46, Tryz.ntmps46
    go_wp2_with fail
    refine HC.out.mono ?_
    rintro e w1 ⟨rfl, hb1⟩
    have hbe := hb0.trans (hb1.mono hb0.size)
    obtain ⟨f1, _, s1, _⟩ := copyF (alloc_new _ _) hb1 (by simp only [World.size_alloc]; omega)
    have p1 := f1 1 (by simp)
    simp only [List.getElem_toArray, List.getElem_cons_succ, List.getElem_cons_zero] at p1
    have HB1 := hid (HB.out w1)
    clear HC hb1 HB f1
    go_wp2_with fail
    refine HB1.out.mono ?_
    rintro e w2 ⟨rfl, hb2⟩
    have hbe2 := (hbe.alloc hbe.size (.cells #[.int .i64 f] 3)).trans (hb2.mono (hbe.alloc hbe.size _).size)
    clear HB1 hb2
    go_wp2
    go_ret
    exact ⟨by rw [HD.out]; rfl, hbe2⟩
  | true =>
    rw [hd] at HB
    rw [if_pos (of_decide_eq_true hd)] at HD
    clear hd
    go_enter Tryz.func46, Tryz.ntmps46
    go_wp2_with fail
    refine HC.out.mono ?_
    rintro e w1 ⟨rfl, hb1⟩
    have hbe := hb0.trans (hb1.mono hb0.size)
    obtain ⟨f1, _, s1, _⟩ := copyF (alloc_new _ _) hb1 (by simp only [World.size_alloc]; omega)
    have p1 := f1 1 (by simp)
    simp only [List.getElem_toArray, List.getElem_cons_succ, List.getElem_cons_zero] at p1
    have HB1 := hid (HB.out w1)
    clear HC hb1 HB f1
    go_wp2_with fail
    refine HB1.out.mono ?_
    rintro e w2 ⟨rfl, hb2⟩
    have hbe2 := (hbe.alloc hbe.size (.cells #[.int .i64 f] 3)).trans (hb2.mono (hbe.alloc hbe.size _).size)
    clear HB1 hb2
    go_wp2
    go_ret
    exact ⟨by rw [HD.out]; rfl, hbe2⟩
end Go.Proofs.YtkcocgdgmlmflaaGreatDoor.ShI
namespace Go.Proofs.YtkcocgdgmlmflaaGreatDoor.ShJ
open Go.RowKit Go.Lib SetP IntO TyM TyP TyB TyC ShM ShP ShA ShB ShC ShE ShQ ShF ShG ShH ShI

/-- a function that may be -/
theorem find_zero {p : Px} {f : Int} (h : findP p f = 0) : chkP p = 0 ∧ 0 ≤ f ∧ f < p.funcs.length := by
  unfold findP at h
  by_cases h1 : chkP p = 0
  · rw [if_neg (fun e => e h1)] at h
    by_cases h2 : 0 ≤ f ∧ f < p.funcs.length
    · exact ⟨h1, h2⟩
    · rw [if_neg h2] at h; omega
  · rw [if_pos h1] at h; exact absurd h h1
theorem chk_zero {p : Px} (h : chkP p = 0) : chkT p.types = 0 ∧ 1 ≤ p.funcs.length ∧ p.funcs.length ≤ 8 ∧ ∀ f ∈ p.funcs, mayF p.types p.funcs.length f = true := by
  unfold chkP at h
  by_cases h1 : chkT p.types = 0
  · rw [if_neg (fun e => e h1)] at h
    by_cases h2 : p.funcs.length < 1 ∨ 8 < p.funcs.length
    · rw [if_pos h2] at h; omega
    · rw [if_neg h2] at h
      by_cases h3 : p.funcs.all (mayF p.types p.funcs.length) = true
      · exact ⟨h1, by omega, by omega, List.all_eq_true.1 h3⟩
      · rw [if_neg h3] at h; omega
  · rw [if_pos h1] at h; exact absurd h h1
theorem may_zero {t : List Ty} {nf : Nat} {f : Fx} (h : mayF t nf f = true) : (0 ≤ f.sig ∧ f.sig < t.length) ∧ kindAt t f.sig = 3 ∧ 1 ≤ f.blocks.length ∧ f.blocks.length ≤ 16 ∧ manyB f.blocks ≤ 128 := by
  unfold mayF at h
  by_cases h1 : 0 ≤ f.sig ∧ f.sig < t.length
  · rw [if_neg (fun e => e h1)] at h
    by_cases h2 : kindAt t f.sig = 3
    · rw [if_neg (fun e => e h2)] at h
      by_cases h3 : f.blocks.length < 1 ∨ 16 < f.blocks.length ∨ 128 < manyB f.blocks
      · rw [if_pos h3] at h; cases h
      · exact ⟨h1, h2, by omega, by omega, by omega⟩
    · rw [if_pos h2] at h; cases h
  · rw [if_pos h1] at h; cases h
/-- a program's function, where there is one -/
structure Has1 (p : Px) (f : Int) (k : Nat) (x : Fx) : Prop where
  eq : f = k
  lt : k < p.funcs.length
  at_ : p.funcs[k]? = some x
  sig0 : 0 ≤ x.sig
  sig1 : x.sig < p.types.length
  blocks1 : 1 ≤ x.blocks.length
  blocks : x.blocks.length ≤ 16
  many : manyB x.blocks ≤ 128
theorem has1 {p : Px} {f : Int} (h : findP p f = 0) : ∃ k x, Has1 p f k x := by
  obtain ⟨h1, h2, h3⟩ := find_zero h
  obtain ⟨_, _, _, h4⟩ := chk_zero h1
  have hk : f.toNat < p.funcs.length := by omega
  obtain ⟨⟨a, b⟩, _, c, d, e⟩ := may_zero (h4 _ (List.getElem_mem hk))
  exact ⟨f.toNat, p.funcs[f.toNat], by omega, hk, List.getElem?_eq_getElem hk, a, b, c, d, e⟩
/-- how many registers a function has -/
def cntP (p : Px) (f : Int) : Nat := match p.funcs[f.toNat]? with
  | some x => parOf p.types x.sig + manyB x.blocks
  | none => 0
theorem cnt_at {p : Px} {f : Int} {k : Nat} {x : Fx} (h : Has1 p f k x) : cntP p f = parOf p.types x.sig + manyB x.blocks := by
  unfold cntP
  rw [h.eq, Int.toNat_natCast, h.at_]
theorem par_le {t : List Ty} {s : Int} (hp : ∀ x ∈ t, x.parts.length ≤ 20000) (h0 : 0 ≤ s) (h1 : s < t.length) : parOf t s ≤ 20000 := by
  have hk : s.toNat < t.length := by omega
  have := parOf_at hk
  rw [Int.toNat_of_nonneg h0] at this
  rw [this]
  exact hp _ (List.getElem_mem hk)
/-- two numbers, and old memory stays -/
def TwoR (n m : Int) (w : World) (e : Ending) (w' : World) : Prop := e = .returned (.tuple #[.int .i64 n, .int .i64 m]) ∧ Below w.heap.size w w'
def ThreeR (n m k : Int) (w : World) (e : Ending) (w' : World) : Prop := e = .returned (.tuple #[.int .i64 n, .int .i64 m, .int .i64 k]) ∧ Below w.heap.size w w'
/-- one of the functions in memory -/
theorem fn_at {w : World} {vf : Value} {p : Px} {f : Int} {k : Nat} {x : Fx} (h : FnsAt w vf p.funcs) (h1 : Has1 p f k x) : ∃ b off cap vb, vf = .slice (some ⟨b, off, none⟩) p.funcs.length cap ∧ b < w.heap.size ∧ w.cell? ⟨b, off + k * 2, none⟩ = some (.int .i64 x.sig) ∧ w.cell? ⟨b, off + k * 2 + 1, none⟩ = some vb ∧ BlksAt w vb x.blocks := by
  obtain ⟨ao, cap, rfl, _⟩ := h.slice
  obtain ⟨b, off, rfl, hb, vb, c0, c1, hbl⟩ := h.at k h1.lt
  have : p.funcs[k]'h1.lt = x := by
    have := h1.at_
    rw [List.getElem?_eq_getElem h1.lt] at this
    exact Option.some.inj this
  rw [this] at c0 hbl
  exact ⟨b, off, cap, vb, rfl, hb, c0, c1, hbl⟩

end Go.Proofs.YtkcocgdgmlmflaaGreatDoor.ShJ
namespace Go.Proofs.YtkcocgdgmlmflaaGreatDoor.FwQ
open TyM ShM ShP ShE ShH ShI ShN ShJ FwM FwC FwP

/-- numbers of blocks, as the program has them -/
def ints (l : List Nat) : List Int := l.map fun (n : Nat) => (n : Int)
theorem ints_length (l : List Nat) : (ints l).length = l.length := by simp [ints]
theorem ints_append (s t : List Nat) : ints (s ++ t) = ints s ++ ints t := by simp [ints]
theorem ints_mem {l : List Nat} {n : Nat} : (n : Int) ∈ ints l ↔ n ∈ l := by
  unfold ints
  rw [List.mem_map]
  constructor
  · rintro ⟨m, hm, e⟩
    have : m = n := by omega
    exact this ▸ hm
  · intro h; exact ⟨n, h, rfl⟩
theorem ints_nonneg {l : List Nat} {n : Int} (h : n ∈ ints l) : 0 ≤ n := by
  unfold ints at h
  obtain ⟨m, _, rfl⟩ := List.mem_map.1 h
  omega
theorem nums_at {l : List Nat} {i : Nat} (h : i < l.length) : (ints l)[i]'(by rw [ints_length]; exact h) = (l[i] : Int) := by simp [ints]
theorem nums_get {l : List Nat} {i : Nat} : (ints l)[i]? = l[i]?.map fun (n : Nat) => (n : Int) := by simp [ints]
/-- what an end names, as numbers -/
theorem ints_succ {l : List Bx} (h : Low l) {i : Nat} (hi : i < l.length) : ints (succ l i) = toE (endAt l i) := by
  unfold succ ints
  rw [if_pos hi, List.map_map]
  refine (List.map_congr_left (fun x hx => ?_)).trans (List.map_id _)
  have := h i hi x hx
  show ((x.toNat : Nat) : Int) = x
  omega
theorem toE_len (x : Ex) : (toE x).length ≤ 2 := by
  unfold toE
  repeat' split
  all_goals simp
theorem succ_len (l : List Bx) (i : Nat) : (succ l i).length ≤ 2 := by
  unfold succ
  split
  · rw [List.length_map]; exact toE_len _
  · simp

/-- the function of a program -/
def blsP (p : Px) (f : Int) : List Bx := (p.funcs[f.toNat]?.getD default).blocks
theorem fn_blocks {p : Px} {f : Int} {k : Nat} {x : Fx} (h : Has1 p f k x) : blsP p f = x.blocks := by
  unfold blsP
  rw [h.eq, Int.toNat_natCast, h.at_]
  rfl
/-- the error of a program, a function and a block -/
def askB (p : Px) (f b : Int) : Int := if findP p f ≠ 0 then findP p f else if 0 ≤ b ∧ b < (blsP p f).length then 0 else 2
theorem ask_find {p : Px} {f b : Int} (h : findP p f ≠ 0) : askB p f b = findP p f := by unfold askB; rw [if_pos h]
theorem ask_zero {p : Px} {f b : Int} (h : askB p f b = 0) : findP p f = 0 ∧ 0 ≤ b ∧ b < (blsP p f).length := by
  unfold askB at h
  split at h
  · rename_i hh; exact absurd h hh
  · rename_i hh
    split at h
    · rename_i h2; exact ⟨by omega, h2⟩
    · cases h
theorem ask_yes {p : Px} {f b : Int} (h : findP p f = 0) (h0 : 0 ≤ b) (h1 : b < (blsP p f).length) : askB p f b = 0 := by
  unfold askB; rw [if_neg (fun e => e h), if_pos ⟨h0, h1⟩]
theorem ask_no {p : Px} {f b : Int} (h : findP p f = 0) (hb : ¬ (0 ≤ b ∧ b < (blsP p f).length)) : askB p f b = 2 := by
  unfold askB; rw [if_neg (fun e => e h), if_neg hb]
/-- of a program that may be, block 0 is there -/
theorem ask_first {p : Px} {f : Int} : askB p f 0 = findP p f := by
  by_cases h : findP p f = 0
  · obtain ⟨k, x, h1⟩ := has1 h
    rw [h]
    refine ask_yes h (by decide) ?_
    rw [fn_blocks h1]
    have := h1.blocks1
    omega
  · exact ask_find h
theorem low_fn {p : Px} {f : Int} (ho : POk p) (h : findP p f = 0) : Low (blsP p f) ∧ 0 < (blsP p f).length ∧ (blsP p f).length ≤ 16 := by
  obtain ⟨k, x, h1⟩ := has1 h
  rw [fn_blocks h1]
  refine low_of (find_zero h).1 ho ?_
  have := h1.at_
  exact List.mem_of_getElem? this

/-! the answers -/
def nextA (p : Px) (f b : Int) : List Int := if askB p f b = 0 then toE (endAt (blsP p f) b.toNat) else []
def predsA (p : Px) (f b : Int) : List Int := if askB p f b = 0 then ints (aheadL (blsP p f) b.toNat) else []
def reachA (p : Px) (f : Int) : List Int := if findP p f = 0 then ints (reachedL (blsP p f)) else []
def orderA (p : Px) (f : Int) : List Int := if findP p f = 0 then ints (orderedL (blsP p f)) else []
def roundA (p : Px) (f b : Int) : Bool := if askB p f b = 0 then roundsL (blsP p f) b.toNat else false
theorem next_succ {p : Px} {f : Int} {b : Nat} (ho : POk p) (h : askB p f b = 0) : nextA p f b = ints (succ (blsP p f) b) := by
  obtain ⟨h1, h2, h3⟩ := ask_zero h
  unfold nextA
  rw [if_pos h, Int.toNat_natCast, ints_succ (low_fn ho h1).1 (by omega)]
end Go.Proofs.YtkcocgdgmlmflaaGreatDoor.FwQ
namespace Go.Proofs.YtkcocgdgmlmflaaGreatDoor.FkP
open TyM ShM ShP ShE ShH ShI ShN FwM FwC FwP FwQ

/-- some blocks are gone through, one by one -/
def each (t : Nat → List Nat) (f : Nat) (cs : List Nat) (s : List Nat × List Nat) : List Nat × List Nat := cs.foldl (fun s c => thr t f c s) s
theorem each_nil (t : Nat → List Nat) (f : Nat) (s : List Nat × List Nat) : each t f [] s = s := rfl
theorem each_snoc (t : Nat → List Nat) (f : Nat) (cs : List Nat) (c : Nat) (s : List Nat × List Nat) : each t f (cs ++ [c]) s = thr t f c (each t f cs s) := by
  unfold each
  rw [List.foldl_append]
  rfl
theorem each_take {t : Nat → List Nat} {f k : Nat} {cs : List Nat} {s : List Nat × List Nat} (h : k < cs.length) : each t f (cs.take (k + 1)) s = thr t f cs[k] (each t f (cs.take k) s) := by
  rw [List.take_succ_eq_append_getElem h, each_snoc]
theorem each_res {t : Nat → List Nat} {n f : Nat} (ht : ∀ i, i < n → ∀ j ∈ t i, j < n) : ∀ (cs : List Nat) (s : List Nat × List Nat), Inv n s → (∀ c ∈ cs, c < n) → n + 1 ≤ f + s.1.length → Res t n cs s (each t f cs s)
  | [], s, hi, _, _ => Res.nil hi
  | c :: cs, s, hi, hc, hf => by
    have h1 := thr_res ht f c s hi (hc c (by simp)) hf
    exact h1.cons (each_res ht cs _ h1.inv (fun d hd => hc d (by simp [hd])) (by have := h1.len; omega))
theorem thr_old {t : Nat → List Nat} {f b : Nat} {s : List Nat × List Nat} (h : b ∈ s.1) : thr t f b s = s := by
  cases f with
  | zero => rfl
  | succ f => unfold thr; rw [if_pos h]
theorem thr_new {t : Nat → List Nat} {f b : Nat} {s : List Nat × List Nat} (h : b ∉ s.1) : thr t (f + 1) b s = ((each t f (t b) (s.1 ++ [b], s.2)).1, (each t f (t b) (s.1 ++ [b], s.2)).2 ++ [b]) := by
  show (if b ∈ s.1 then s else _) = _
  rw [if_neg h]
  rfl
theorem inv_begin {n b : Nat} {s : List Nat × List Nat} (hi : Inv n s) (hb : b < n) (hm : b ∉ s.1) : Inv n (s.1 ++ [b], s.2) := by
  refine ⟨?_, fun v hv => ?_, fun v hv => by simp [hi.sub v hv], hi.nd2⟩
  · show (s.1 ++ [b]).Nodup
    rw [List.nodup_append]
    refine ⟨hi.nd, by simp, fun v hv w hw e => hm ?_⟩
    rw [List.mem_singleton.1 hw] at e
    exact e ▸ hv
  · rcases List.mem_append.1 hv with hv | hv
    · exact hi.lt v hv
    · rw [List.mem_singleton.1 hv]; exact hb
theorem inv_none (n : Nat) : Inv n ([], []) := ⟨by simp, by simp, by simp, by simp⟩
theorem inv_len {n : Nat} {s : List Nat × List Nat} (hi : Inv n s) : s.1.length ≤ n ∧ s.2.length ≤ n := ⟨nodup_len n hi.nd hi.lt, nodup_len n hi.nd2 fun v hv => hi.lt v (hi.sub v hv)⟩

/-- the order behind, from some on -/
def behindL (l : List Bx) (from_ : List Nat) : List Nat := (each (succ l) (l.length + 1) from_ ([], [])).2
theorem behind_order (l : List Bx) : (behindL l [0]).reverse = orderedL l := rfl
theorem behind_all {l : List Bx} (h : Low l) {cs : List Nat} (hc : ∀ c ∈ cs, c < l.length) : Res (succ l) l.length cs ([], []) (each (succ l) (l.length + 1) cs ([], [])) :=
  each_res (succ_lt h) cs _ (inv_none _) hc (by simp)
theorem behind_nodup {l : List Bx} (h : Low l) {cs : List Nat} (hc : ∀ c ∈ cs, c < l.length) : (behindL l cs).Nodup := (behind_all h hc).inv.nd2
theorem behind_mem {l : List Bx} (h : Low l) {cs : List Nat} (hc : ∀ c ∈ cs, c < l.length) (v : Nat) : v ∈ behindL l cs ↔ ∃ c ∈ cs, FwM.Comes (succ l) c v := by
  have hr := behind_all h hc
  have hin : ∀ u, u ∈ (each (succ l) (l.length + 1) cs ([], [])).1 → u ∈ (each (succ l) (l.length + 1) cs ([], [])).2 := fun u hu => by
    refine Classical.byContradiction fun hh => ?_
    have := (hr.gray u).1 ⟨hu, hh⟩
    exact absurd this.1 (by simp)
  unfold behindL
  constructor
  · intro hv
    rcases hr.new v (hr.inv.sub v hv) with h | h
    · cases h
    · exact h
  · rintro ⟨c, hcm, h⟩
    induction h with
    | here => exact hin c (hr.all c hcm)
    | step _ hd ih =>
      rcases hr.closed _ ih with h | h
      · cases h
      · exact hin _ (h _ hd)
theorem behind_rounds {l : List Bx} (h : Low l) {b : Nat} (hb : b < l.length) : (behindL l (succ l b)).contains b = roundsL l b := by
  rw [Bool.eq_iff_iff, List.contains_iff_mem, behind_mem h (succ_lt h b hb), rounds_iff h hb]
theorem behind_len {l : List Bx} (h : Low l) {cs : List Nat} (hc : ∀ c ∈ cs, c < l.length) : (behindL l cs).length ≤ l.length := (inv_len (behind_all h hc).inv).2

/-! what is rising is told by its members -/
theorem up_eq : ∀ {a b : List Int}, a.Pairwise (· < ·) → b.Pairwise (· < ·) → (∀ v, v ∈ a ↔ v ∈ b) → a = b
  | [], b, _, _, h => by
    cases b with
    | nil => rfl
    | cons x b => exact absurd ((h x).2 (by simp)) (by simp)
  | x :: a, [], _, _, h => absurd ((h x).1 (by simp)) (by simp)
  | x :: a, y :: b, ha, hb, h => by
    obtain ⟨ha1, ha2⟩ := List.pairwise_cons.1 ha
    obtain ⟨hb1, hb2⟩ := List.pairwise_cons.1 hb
    have e : x = y := by
      rcases List.mem_cons.1 ((h x).1 (by simp)) with e | hx
      · exact e
      · rcases List.mem_cons.1 ((h y).2 (by simp)) with e | hy
        · exact e.symm
        · have := hb1 x hx
          have := ha1 y hy
          omega
    subst e
    refine congrArg (x :: ·) (up_eq ha2 hb2 fun v => ?_)
    constructor
    · intro hv
      rcases List.mem_cons.1 ((h v).1 (by simp [hv])) with e | hv'
      · have := ha1 v hv; omega
      · exact hv'
    · intro hv
      rcases List.mem_cons.1 ((h v).2 (by simp [hv])) with e | hv'
      · have := hb1 v hv; omega
      · exact hv'
theorem sorted_up {a : List Int} (h : a.Nodup) : (a.mergeSort fun x y => decide (x ≤ y)).Pairwise (· < ·) := by
  have h1 := List.pairwise_mergeSort (le := fun x y : Int => decide (x ≤ y)) (fun a b c h1 h2 => by simp only [decide_eq_true_eq] at *; omega) (fun a b => by simp only [Bool.or_eq_true, decide_eq_true_eq]; omega) a
  have h2 : (a.mergeSort fun x y => decide (x ≤ y)).Nodup := (List.mergeSort_perm a _).symm.nodup h
  refine (h1.and h2).imp fun ⟨h3, h4⟩ => ?_
  simp only [decide_eq_true_eq] at h3
  omega
theorem ints_nodup {l : List Nat} (h : l.Nodup) : (ints l).Nodup := by
  unfold ints List.Nodup
  rw [List.pairwise_map]
  exact h.imp fun h e => h (by omega)
theorem ints_up {l : List Nat} (h : l.Pairwise (· < ·)) : (ints l).Pairwise (· < ·) := by
  unfold ints
  rw [List.pairwise_map]
  exact h.imp fun h => by omega
theorem ints_mem_iff {l : List Nat} {v : Int} : v ∈ ints l ↔ ∃ n ∈ l, (n : Int) = v := by
  unfold ints
  exact List.mem_map
theorem behind_reach {l : List Bx} (h : Low l) (h0 : 0 < l.length) : ((ints (behindL l [0])).mergeSort fun x y => decide (x ≤ y)) = ints (reachedL l) := by
  have hc : ∀ c ∈ [0], c < l.length := fun c hc => by rw [List.mem_singleton.1 hc]; exact h0
  refine up_eq (sorted_up (ints_nodup (behind_nodup h hc))) (ints_up (reached_up l)) fun v => ?_
  rw [(List.mergeSort_perm _ _).mem_iff, ints_mem_iff, ints_mem_iff]
  constructor
  · rintro ⟨n, hn, rfl⟩
    obtain ⟨c, hcm, hh⟩ := (behind_mem h hc n).1 hn
    rw [List.mem_singleton.1 hcm] at hh
    exact ⟨n, (reached_mem h h0 n).2 hh, rfl⟩
  · rintro ⟨n, hn, rfl⟩
    exact ⟨n, (behind_mem h hc n).2 ⟨0, by simp, (reached_mem h h0 n).1 hn⟩, rfl⟩
end Go.Proofs.YtkcocgdgmlmflaaGreatDoor.FkP
namespace Go.Proofs.YtkcocgdgmlmflaaGreatDoor.FvA
open Go.RowKit Go.Lib SetP IntO TyM TyP TyB TyC ShM ShP ShA ShB ShC ShE ShH ShI ShJ FwP FwQ FwR

def NotIn (n : Int) (l : List Int) (k : Nat) : Prop := n ∉ l.take k
theorem notIn_zero (n : Int) (l : List Int) : NotIn n l 0 := by simp [NotIn]
theorem notIn_succ {n : Int} {l : List Int} {k : Nat} (h : NotIn n l k) (hk : k < l.length) (hne : l[k] ≠ n) : NotIn n l (k + 1) := by
  unfold NotIn at *
  rw [List.take_succ_eq_append_getElem hk]
  simp only [List.mem_append, List.mem_singleton, not_or]
  exact ⟨h, fun e => hne e.symm⟩
theorem notIn_all {n : Int} {l : List Int} (h : NotIn n l l.length) : n ∉ l := by
  unfold NotIn at h
  rwa [List.take_length] at h
theorem in_of {n : Int} {l : List Int} {k : Nat} (hk : k < l.length) (he : l[k] = n) : n ∈ l := he ▸ List.getElem_mem hk


set_option maxRecDepth 100000 in
set_option maxHeartbeats 4000000 in
theorem to_calls (x : Ex) (w : World) :
    Calls Tryz.prog 58 #[exV x] w (OwnI (toE x) w) := by
  obtain ⟨kd, a, tt, els⟩ := x
  have HD : Hid (toE ⟨kd, a, tt, els⟩ = if kd = 1 ∨ (kd = 2 ∧ tt = els) then [tt] else if kd = 2 then [tt, els] else []) := rfl
  generalize toE ⟨kd, a, tt, els⟩ = ans at *
  have HI1 := hid (owns_lit_at w (w.alloc (.cells #[.int .u8 kd, .int .i64 a, .int .i64 tt, .int .i64 els] 45)) [tt] (w.heap.size + 1) 1 #[.int .i64 tt] (by simp) (by simp) rfl rfl (by simp))
  have HI2 := hid (owns_lit_at w (w.alloc (.cells #[.int .u8 kd, .int .i64 a, .int .i64 tt, .int .i64 els] 45)) [tt, els] (w.heap.size + 1) 2 #[.int .i64 tt, .int .i64 els] (by simp) (by simp) rfl rfl (by simp))
  have HI0 : Hid ((w.alloc (.cells #[.int .u8 kd, .int .i64 a, .int .i64 tt, .int .i64 els] 45)).ownsRow w.heap.size 3 1 (.slice none 0 0) 0 (intVals [])) := World.ownsRow_nil _ _ _ _
  have HB0 := hid (alloc_below w (.cells #[.int .u8 kd, .int .i64 a, .int .i64 tt, .int .i64 els] 45))
  have HB := hid (fun o => (alloc_below w (.cells #[.int .u8 kd, .int .i64 a, .int .i64 tt, .int .i64 els] 45)).alloc (by simp) o)
  by_cases h1 : kd = 1
  · rw [if_pos (.inl h1)] at HD
    have e1 : (kd == 1) = true := by simpa using h1
    clear h1
    go_enter Tryz.func58, Tryz.ntmps58
    go_wp2
    go_ret
    exact ⟨_, _, rfl, by rw [HD.out]; exact HI1.out, HB.out _⟩
  have e1 : (kd == 1) = false := by simpa using h1
  by_cases h2 : kd = 2
  · have e2 : (kd == 2) = true := by simpa using h2
    by_cases h3 : tt = els
    · rw [if_pos (.inr ⟨h2, h3⟩)] at HD
      have e3 : (tt == els) = true := by simpa using h3
      clear h1 h2 h3
      go_enter Tryz.func58, Tryz.ntmps58
      go_wp2
      go_ret
      exact ⟨_, _, rfl, by rw [HD.out]; exact HI1.out, HB.out _⟩
    · rw [if_neg (fun h => h.elim h1 fun h => h3 h.2), if_pos h2] at HD
      have e3 : (tt == els) = false := by simpa using h3
      clear h1 h2 h3
      go_enter Tryz.func58, Tryz.ntmps58
      go_wp2
      go_ret
      exact ⟨_, _, rfl, by rw [HD.out]; exact HI2.out, HB.out _⟩
  · rw [if_neg (fun h => h.elim h1 fun h => h2 h.1), if_neg h2] at HD
    have e2 : (kd == 2) = false := by simpa using h2
    clear h1 h2
    go_enter Tryz.func58, Tryz.ntmps58
    go_wp2
    go_ret
    exact ⟨_, _, rfl, by rw [HD.out]; exact HI0.out, HB0.out⟩
end Go.Proofs.YtkcocgdgmlmflaaGreatDoor.FvA
namespace Go.Proofs.YtkcocgdgmlmflaaGreatDoor.FvB
open Go.RowKit Go.Lib SetP IntO TyM TyP TyB TyC ShM ShP ShA ShB ShC ShH ShI ShJ Aft FwP FwQ FwR

/-- one of the functions in memory, in every world behind -/
theorem fn_later {W : World} {vf : Value} {p : Px} {f : Int} {k : Nat} {x : Fx} (h : FnsAt W vf p.funcs) (h1 : Has1 p f k x) : ∃ b off cap ao c, vf = .slice (some ⟨b, off, none⟩) p.funcs.length cap ∧ (∀ w', Aft W w' → w'.cell? ⟨b, off + k * 2, none⟩ = some (.int .i64 x.sig)) ∧ (∀ w', Aft W w' → w'.cell? ⟨b, off + k * 2 + 1, none⟩ = some (.slice ao x.blocks.length c)) ∧ BlksAt W (.slice ao x.blocks.length c) x.blocks := by
  obtain ⟨b, off, cap, vb, rfl, hb, c0, c1, hbl⟩ := fn_at h h1
  obtain ⟨ao, c, rfl, _⟩ := hbl.slice
  exact ⟨b, off, cap, ao, c, rfl, later c0, later c1, hbl⟩

/-- a block's end, in every world behind -/
theorem end_later {W : World} {ao : Option Addr} {n c : Nat} {l : List Bx} (h : BlksAt W (.slice ao n c) l) (b : Nat) (hb : b < l.length) : ∃ g off, ao = some ⟨g, off, none⟩ ∧ ∀ w', Aft W w' → w'.cell? ⟨g, off + b * 5 + 1, none⟩ = some (.int .u8 (endAt l b).kind) ∧ w'.cell? ⟨g, off + b * 5 + 2, none⟩ = some (.int .i64 (endAt l b).a) ∧ w'.cell? ⟨g, off + b * 5 + 3, none⟩ = some (.int .i64 (endAt l b).to) ∧ w'.cell? ⟨g, off + b * 5 + 4, none⟩ = some (.int .i64 (endAt l b).els) := by
  obtain ⟨g, off, rfl, hlt, vi, c0, c1, c2, c3, c4, _⟩ := h.at b hb
  have he : endAt l b = l[b].en := by unfold endAt; rw [List.getElem?_eq_getElem hb]; rfl
  rw [he]
  exact ⟨g, off, rfl, fun w' h => ⟨later c1 w' h, later c2 w' h, later c3 w' h, later c4 w' h⟩⟩
end Go.Proofs.YtkcocgdgmlmflaaGreatDoor.FvB
namespace Go.Proofs.YtkcocgdgmlmflaaGreatDoor.FvC
open TyM ShM ShP ShE ShH ShI ShN ShJ FwM FwC FwP FwQ

/-- those ahead of a block, of the first k -/
def aheadN (l : List Bx) (b k : Nat) : List Nat := (List.range k).filter fun i => decide (b ∈ succ l i)
theorem aheadN_all (l : List Bx) (b : Nat) : aheadN l b l.length = aheadL l b := rfl
theorem aheadN_len (l : List Bx) (b k : Nat) : (aheadN l b k).length ≤ k := by
  have := List.length_filter_le (fun i => decide (b ∈ succ l i)) (List.range k)
  rw [List.length_range] at this
  exact this
theorem aheadN_yes {l : List Bx} {b k : Nat} (h : b ∈ succ l k) : aheadN l b (k + 1) = aheadN l b k ++ [k] := by
  unfold aheadN
  rw [List.range_succ, List.filter_append]
  simp [h]
theorem aheadN_no {l : List Bx} {b k : Nat} (h : ¬ b ∈ succ l k) : aheadN l b (k + 1) = aheadN l b k := by
  unfold aheadN
  rw [List.range_succ, List.filter_append]
  simp [h]
theorem to_len (x : Ex) : (toE x).length ≤ 2 := toE_len x
end Go.Proofs.YtkcocgdgmlmflaaGreatDoor.FvC
namespace Go.Proofs.YtkcocgdgmlmflaaGreatDoor.FvP
open TyM ShM ShP FwM FwC FwP FwQ

theorem mark_len (but : Int) (out : List Bool) (j : Nat) : (FwC.mark but out j).length = out.length := by unfold FwC.mark; rw [List.length_set]
theorem begin_len (but : Int) (out : List Bool) (j : Nat) : (FwC.begin but out j).length = out.length := by unfold FwC.begin; rw [List.length_set]
/-- the start, the first i ones marked -/
def startO (but : Int) (n : Nat) (first : List Nat) (i : Nat) : List Bool := (first.take i).foldl (FwC.begin but) (List.replicate n false)
theorem startO_succ {but : Int} {n : Nat} {first : List Nat} {i : Nat} (h : i < first.length) : startO but n first (i + 1) = (startO but n first i).set first[i] (decide ((first[i] : Int) ≠ but)) := by
  unfold startO
  rw [List.take_succ_eq_append_getElem h, List.foldl_append]
  rfl
theorem startO_len (but : Int) (n : Nat) (first : List Nat) : ∀ i, (startO but n first i).length = n := by
  have : ∀ (l : List Nat) (o : List Bool), (l.foldl (FwC.begin but) o).length = o.length := by
    intro l
    induction l with
    | nil => intro o; rfl
    | cons f l ih => intro o; rw [List.foldl_cons, ih, begin_len]
  intro i
  unfold startO
  rw [this, List.length_replicate]
theorem startO_all (but : Int) (n : Nat) (first : List Nat) : startO but n first first.length = FwC.start but n first := by
  unfold startO FwC.start
  rw [List.take_length]
/-- within a block's list -/
def inO (but : Int) (l : List Nat) (k : Nat) (out : List Bool) : List Bool := (l.take k).foldl (FwC.mark but) out
theorem inO_succ {but : Int} {l : List Nat} {k : Nat} {out : List Bool} (h : k < l.length) : inO but l (k + 1) out = (inO but l k out).set l[k] (has (inO but l k out) l[k] || decide ((l[k] : Int) ≠ but)) := by
  unfold inO
  rw [List.take_succ_eq_append_getElem h, List.foldl_append]
  rfl
theorem inO_all (but : Int) (l : List Nat) (out : List Bool) : inO but l l.length out = l.foldl (FwC.mark but) out := by
  unfold inO
  rw [List.take_length]
theorem inO_le (but : Int) (l : List Nat) (k : Nat) (out : List Bool) : Le out (inO but l k out) := foldl_le _ (mark_le but) _ _
theorem inO_has {but : Int} {l : List Nat} {k v : Nat} {out : List Bool} (h : has out v = true) : has (inO but l k out) v = true := (inO_le but l k out).2 v h
theorem inO_len (but : Int) (l : List Nat) (k : Nat) (out : List Bool) : (inO but l k out).length = out.length := (inO_le but l k out).1.symm
/-- within a round -/
def midO (t : Nat → List Nat) (but : Int) (out : List Bool) (i : Nat) : List Bool := (List.range i).foldl (goes t but) out
theorem midO_succ (t : Nat → List Nat) (but : Int) (out : List Bool) (i : Nat) : midO t but out (i + 1) = goes t but (midO t but out i) i := by
  unfold midO
  rw [List.range_succ, List.foldl_append]
  rfl
theorem midO_yes {t : Nat → List Nat} {but : Int} {out : List Bool} {i : Nat} (h : has (midO t but out i) i = true) : midO t but out (i + 1) = inO but (t i) (t i).length (midO t but out i) := by
  rw [midO_succ, inO_all]
  unfold goes
  rw [if_pos h]
theorem midO_no {t : Nat → List Nat} {but : Int} {out : List Bool} {i : Nat} (h : has (midO t but out i) i = false) : midO t but out (i + 1) = midO t but out i := by
  rw [midO_succ]
  unfold goes
  rw [if_neg (by rw [h]; simp)]
theorem midO_len (t : Nat → List Nat) (but : Int) (out : List Bool) (i : Nat) : (midO t but out i).length = out.length := (foldl_le _ (goes_le t but) _ _).1.symm
theorem pass_mid (t : Nat → List Nat) (but : Int) (n : Nat) (out : List Bool) : midO t but out n = pass t but n out := rfl
theorem passes_snoc (t : Nat → List Nat) (but : Int) (n : Nat) : ∀ (k : Nat) (out : List Bool), passes t but n (k + 1) out = pass t but n (passes t but n k out)
  | 0, _ => rfl
  | k + 1, out => passes_snoc t but n k (pass t but n out)
theorem passes_len (t : Nat → List Nat) (but : Int) (n k : Nat) (out : List Bool) : (passes t but n k out).length = out.length := (passes_le t but n k out).1.symm
theorem has_at {bs : List Bool} {i : Nat} {b : Bool} (h : bs[i]? = some b) : has bs i = b := by
  unfold has
  rw [List.getD_eq_getElem?_getD, h]
  rfl
end Go.Proofs.YtkcocgdgmlmflaaGreatDoor.FvP
namespace Go.Proofs.YtkcocgdgmlmflaaGreatDoor.FvD
open Go.RowKit Go.Lib RwO SetP IntO TyM TyP TyB TyC ShM ShP ShA ShB ShC ShE ShH ShI ShJ Aft FwM FwC FwP FwQ FwR FvA FvB FvC FvP RwB

/-- a row of bools -/
def BoolsR (bs : List Bool) (w : World) (e : Ending) (w' : World) : Prop := ∃ g, e = .returned (.slice (some ⟨g, 0, none⟩) bs.length bs.length) ∧ RowB w.heap.size g bs w' ∧ Below w.heap.size w w'

theorem ne_dec (a b : Int) : (a != b) = decide (a ≠ b) := by
  by_cases h : a = b <;> simp [h]

end Go.Proofs.YtkcocgdgmlmflaaGreatDoor.FvD
namespace Go.Proofs.YtkcocgdgmlmflaaGreatDoor.FvE
open Go.RowKit Go.Lib RwO SetP IntO TyM TyP TyB TyC ShM ShP ShA ShB ShC ShE ShH ShI ShJ Aft FwM FwC FwP FwQ FwR FvA FvB FvC FvP RwB FvD

/-- the first k numbers of a kind -/
def upN (q : Nat → Bool) (k : Nat) : List Nat := (List.range k).filter q
theorem upN_len (q : Nat → Bool) (k : Nat) : (upN q k).length ≤ k := by
  have := List.length_filter_le q (List.range k)
  rw [List.length_range] at this
  exact this
theorem upN_yes {q : Nat → Bool} {k : Nat} (h : q k = true) : upN q (k + 1) = upN q k ++ [k] := by
  unfold upN
  rw [List.range_succ, List.filter_append]
  simp [h]
theorem upN_no {q : Nat → Bool} {k : Nat} (h : q k = false) : upN q (k + 1) = upN q k := by
  unfold upN
  rw [List.range_succ, List.filter_append]
  simp [h]

end Go.Proofs.YtkcocgdgmlmflaaGreatDoor.FvE
namespace Go.Proofs.YtkcocgdgmlmflaaGreatDoor.FvE
open Go.RowKit Go.Lib RwO SetP IntO TyM TyP TyB TyC ShM ShP ShA ShB ShC ShE ShH ShI ShJ Aft FwM FwC FwP FwQ FwR FvA FvB FvC FvP RwB FvD

end Go.Proofs.YtkcocgdgmlmflaaGreatDoor.FvE
namespace Go.Proofs.YtkcocgdgmlmflaaGreatDoor.FwB
open TyM ShM ShP ShE ShH ShI ShN FwM FwC FwP FwQ

/-- what has been met, coming from one, when the first i have been gone through -/
structure Bfs (t : Nat → List Nat) (n a i : Nat) (seen : List Nat) : Prop where
  nd : seen.Nodup
  lt : ∀ v ∈ seen, v < n
  snd : ∀ v ∈ seen, FwM.Comes t a v
  mem : a ∈ seen
  closed : ∀ j u, j < i → seen[j]? = some u → ∀ c ∈ t u, c ∈ seen
theorem Bfs.start {t : Nat → List Nat} {n a : Nat} (h : a < n) : Bfs t n a 0 [a] :=
  ⟨by simp, fun v hv => by rw [List.mem_singleton.1 hv]; exact h, fun v hv => by rw [List.mem_singleton.1 hv]; exact .here, by simp, fun j u hj => absurd hj (by omega)⟩
theorem Bfs.len {t : Nat → List Nat} {n a i : Nat} {seen : List Nat} (h : Bfs t n a i seen) : seen.length ≤ n := nodup_len n h.nd h.lt
/-- one that is not there yet -/
theorem Bfs.put {t : Nat → List Nat} {n a i c u : Nat} {seen : List Nat} (ht : ∀ i, i < n → ∀ j ∈ t i, j < n) (h : Bfs t n a i seen) (hu : u ∈ seen) (hc : c ∈ t u) (hn : c ∉ seen) (hi : i ≤ seen.length) : Bfs t n a i (seen ++ [c]) := by
  refine ⟨?_, fun v hv => ?_, fun v hv => ?_, by simp [h.mem], fun j v hj hv d hd => ?_⟩
  · rw [List.nodup_append]
    refine ⟨h.nd, by simp, fun x hx y hy e => hn ?_⟩
    rw [List.mem_singleton.1 hy] at e
    exact e ▸ hx
  · rcases List.mem_append.1 hv with hv | hv
    · exact h.lt v hv
    · rw [List.mem_singleton.1 hv]; exact ht u (h.lt u hu) c hc
  · rcases List.mem_append.1 hv with hv | hv
    · exact h.snd v hv
    · rw [List.mem_singleton.1 hv]; exact .step (h.snd u hu) hc
  · rw [List.getElem?_append_left (by omega)] at hv
    exact List.mem_append.2 (.inl (h.closed j v hj hv d hd))
/-- one more has been gone through -/
theorem Bfs.next {t : Nat → List Nat} {n a i u : Nat} {seen : List Nat} (h : Bfs t n a i seen) (hu : seen[i]? = some u) (hall : ∀ c ∈ t u, c ∈ seen) : Bfs t n a (i + 1) seen := by
  refine ⟨h.nd, h.lt, h.snd, h.mem, fun j v hj hv => ?_⟩
  by_cases e : j = i
  · subst e
    rw [hu] at hv
    cases hv
    exact hall
  · exact h.closed j v (by omega) hv
/-- all have been gone through: what has been met is what can be come to -/
theorem Bfs.all {t : Nat → List Nat} {n a : Nat} {seen : List Nat} (h : Bfs t n a seen.length seen) (v : Nat) : v ∈ seen ↔ FwM.Comes t a v := by
  refine ⟨h.snd v, fun hc => ?_⟩
  induction hc with
  | here => exact h.mem
  | step _ hd ih =>
    obtain ⟨j, hj, e⟩ := List.getElem_of_mem ih
    exact h.closed j _ hj (by rw [List.getElem?_eq_getElem hj, e]) _ hd
/-- can one be come to from another one, as a bool -/
def comeB (l : List Bx) (a b : Nat) : Bool := has (comeO (succ l) (-1) l.length [a]) b
theorem comeB_iff {l : List Bx} (h : Low l) {a b : Nat} (ha : a < l.length) : comeB l a b = true ↔ FwM.Comes (succ l) a b := by
  unfold comeB
  rw [come_iff (succ_lt h) (fun x hx => by rw [List.mem_singleton.1 hx]; exact ha), way_comes (by decide)]
  simp
end Go.Proofs.YtkcocgdgmlmflaaGreatDoor.FwB
namespace Go.Proofs.YtkcocgdgmlmflaaGreatDoor.FwK
open Go.RowKit Go.Lib SetP IntO TyM TyP TyB ShM ShP ShA ShI FwP FwQ FwR

def I64 (n : Int) : Prop := -9223372036854775808 ≤ n ∧ n ≤ 9223372036854775807
def NextC : Prop := ∀ (p : Px) (f b : Int) (v : Value) (w : World), PrAt w v p → Tab w → Small p → POk p → I64 f → I64 b →
  Calls Tryz.prog 30 #[v, .int .i64 f, .int .i64 b] w (LstN (nextA p f b) (askB p f b) w)
theorem NextC.e (h : NextC) : ∀ (p : Px) (f b : Int) (v : Value) (w : World), PrAt w v p → Tab w → Small p → POk p → I64 f → I64 b → Calls Tryz.prog 30 #[v, .int .i64 f, .int .i64 b] w (LstE (nextA p f b) (askB p f b) w) := fun p f b v w h1 h2 h3 h4 j1 j2 => (h p f b v w h1 h2 h3 h4 j1 j2).mono fun _ _ h => h.e
end Go.Proofs.YtkcocgdgmlmflaaGreatDoor.FwK
