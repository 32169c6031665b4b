/- Walks over shape.Check, find and Regs. Plain facts on how blocks follow each other: where they go, what is reached, the order, rounds. Programs that have been written out: rows in blocks of their own. Walk over fescuelaw09.chapter. The program of fescuelaw09.FlowNames. Walk over shape.find. A function that may be: plain facts. What layer 9 answers of a program, in plain: errors, and lists of numbers. The order behind, from some blocks on, in plain: what is begun, and what stands in it. What flow.walk keeps in memory: the blocks, a set of those begun, a row of those behind; what is apart from it. Walks over fescueref09.In, To, asked, Next. -/
import Derived.Test.YtimnjkdhcnhkoaaDoorZShH
import Derived.Test.YtimnjkdhcnhkoaaDoorZTyEToTyS
import Derived.Test.YtimnjkdhcnhkoaaDoorZTyMToShN
import Derived.Test.YtimnjkdhcnhkoaaDoorZFwRToTyRT
import Derived.Test.YtimnjkdhcnhkoaaDoorZTyBToTyREG
import Derived.Test.YtimnjkdhcnhkoaaDoorZIntOToAft
import Derived.Maps.OwnSet
namespace Go.Proofs.YtimnjkdhcnhkoaaDoor.ShI
open Go.RowKit Go.Lib SetP IntO TyM TyP TyB TyC ShM ShP ShA ShB ShC ShE ShQ ShF ShG ShH

/-- the kinds of a program's numbers -/
def POk (p : Px) : Prop := ∀ f ∈ p.funcs, ∀ b ∈ f.blocks, (0 ≤ b.en.kind ∧ b.en.kind ≤ 255) ∧ ∀ y ∈ b.ins, 0 ≤ y.op ∧ y.op ≤ 255
def chkP (p : Px) : Int := if chkT p.types ≠ 0 then chkT p.types else if p.funcs.length < 1 ∨ 8 < p.funcs.length then 60 else if p.funcs.all (mayF p.types p.funcs.length) = true then 0 else 60
def findP (p : Px) (f : Int) : Int := if chkP p ≠ 0 then chkP p else if 0 ≤ f ∧ f < p.funcs.length then 0 else 2
theorem all_take {α : Type} {q : α → Bool} {l : List α} {k : Nat} (hk : k < l.length) (h : (l.take k).all q = true) (hp : q l[k] = true) : (l.take (k + 1)).all q = true := by
  rw [List.take_succ_eq_append_getElem hk, List.all_append, h]
  simp [hp]
theorem all_not {α : Type} {q : α → Bool} {l : List α} {k : Nat} (hk : k < l.length) (hp : q l[k] = false) : ¬ l.all q = true := fun h => by
  have := List.all_eq_true.1 h _ (List.getElem_mem hk)
  rw [hp] at this; cases this

set_option maxRecDepth 100000 in
set_option maxHeartbeats 8000000 in
theorem check_calls (p : Px) (v : Value) (w : World) (hp : PrAt w v p) (htab : Tab w) (hs : Small p) (hok : POk p) :
    Calls Tryd.prog 65 #[v] w (NumR (chkP p) w) := by
  obtain ⟨vt, vf, rfl, ht, hf⟩ := hp
  have hb0 := alloc_below w (.cells #[vt, vf] 25)
  have HCK := hid (TyS.check_calls p.types vt _ (ht.below hb0))
  have HT := hid ht
  have HF := hid hf
  have HTAB := hid htab
  have HB0 := hid hb0
  have HS := hid hs
  have HOK := hid hok
  obtain ⟨ta, tc, rfl⟩ := ht.slice
  obtain ⟨fa, fc, rfl, hfl⟩ := hf.slice
  have HD : Hid (chkP p = if chkT p.types ≠ 0 then chkT p.types else if p.funcs.length < 1 ∨ 8 < p.funcs.length then 60 else if p.funcs.all (mayF p.types p.funcs.length) = true then 0 else 60) := rfl
  clear ht hf htab hb0 hs hok
  generalize chkP p = ans at *
  by_cases hc : chkT p.types = 0
  rotate_left
  · rw [if_pos hc] at HD
    have e0 : (chkT p.types != 0) = true := by simpa using hc
    generalize chkT p.types = ct at *
    clear HT HF HTAB HS HOK
    generalize p.types.length = n1 at *
    generalize p.funcs.length = n2 at *
    go_enter Tryd.func65, Tryd.ntmps65
    go_wp2_with fail
    refine HCK.out.mono ?_
    rintro e w1 ⟨rfl, hb1⟩
    have hbe := HB0.out.trans (hb1.mono HB0.out.size)
    clear HCK hb1 hc
    go_wp2
    go_ret
    exact ⟨by rw [HD.out]; rfl, hbe⟩
  rw [if_neg (fun h => h hc)] at HD
  rw [hc] at HCK
  clear hc
  by_cases hn : p.funcs.length < 1 ∨ 8 < p.funcs.length
  · rw [if_pos hn] at HD
    clear HT HF HTAB HS HOK
    generalize p.types.length = n1 at *
    generalize p.funcs.length = n2 at *
    by_cases hn1 : (n2 : Int) < 1
    · skip
      go_enter Tryd.func65, Tryd.ntmps65
      go_wp2_with fail
      refine HCK.out.mono ?_
      rintro e w1 ⟨rfl, hb1⟩
      obtain ⟨f1, _, s1, _⟩ := copyF (alloc_new _ _) hb1 (by simp only [World.size_alloc]; omega)
      have hbe := HB0.out.trans (hb1.mono HB0.out.size)
      have p0 := f1 0 (by simp); have p1 := f1 1 (by simp)
      simp only [List.getElem_toArray, List.getElem_cons_succ, List.getElem_cons_zero] at p0 p1
      clear HCK hb1 f1 hn
      go_wp2
      all_goals (try (exfalso; omega))
      go_ret
      exact ⟨by rw [HD.out]; rfl, hbe⟩
    · have h17 : (8 : Int) < n2 := by omega
      go_enter Tryd.func65, Tryd.ntmps65
      go_wp2_with fail
      refine HCK.out.mono ?_
      rintro e w1 ⟨rfl, hb1⟩
      obtain ⟨f1, _, s1, _⟩ := copyF (alloc_new _ _) hb1 (by simp only [World.size_alloc]; omega)
      have hbe := HB0.out.trans (hb1.mono HB0.out.size)
      have p0 := f1 0 (by simp); have p1 := f1 1 (by simp)
      simp only [List.getElem_toArray, List.getElem_cons_succ, List.getElem_cons_zero] at p0 p1
      clear HCK hb1 f1 hn
      go_wp2
      all_goals (try (exfalso; omega))
      go_ret
      exact ⟨by rw [HD.out]; rfl, hbe⟩
  rw [if_neg hn] at HD
  have g1 : ¬ (p.funcs.length : Int) < 1 := by omega
  have g8 : ¬ (8 : Int) < p.funcs.length := by omega
  have hn10 : p.funcs.length ≤ 10 := by omega
  clear hn
  go_enter Tryd.func65, Tryd.ntmps65
  go_wp2_with fail
  refine HCK.out.mono ?_
  rintro e w1 ⟨rfl, hb1⟩
  have hbe := HB0.out.trans (hb1.mono HB0.out.size)
  obtain ⟨f1, _, s1, k1⟩ := copyF (alloc_new _ _) hb1 (by simp only [World.size_alloc]; omega)
  have p0 := f1 0 (by simp); have p1 := f1 1 (by simp)
  simp only [List.getElem_toArray, List.getElem_cons_succ, List.getElem_cons_zero] at p0 p1
  have HK1 := hid k1
  have HBE := hid hbe
  clear HCK hb1 f1 k1 hbe
  go_wp2_with fail
  all_goals (try (exfalso; omega))
  go_loopg [25] p.funcs.length (fun gk i wr => ∃ k : Nat, k + gk = p.funcs.length ∧ i = .int .i64 k ∧ (p.funcs.take k).all (mayF p.types p.funcs.length) = true ∧ Below w1.heap.size w1 wr)
  case atStart => exact ⟨0, by omega, rfl, rfl, Below.refl _ _⟩
  case round =>
    obtain ⟨k, hk, rfl, hall, hbr⟩ := hrel
    have HK := hid hk
    have HALL := hid hall
    have hbw := HBE.out.trans (hbr.mono HBE.out.size)
    clear p0 p1
    obtain ⟨f1, _, s1, _⟩ := copyF HK1.out hbr (Array.getElem?_eq_some_iff.1 HK1.out).1
    have p0 := f1 0 (by simp); have p1 := f1 1 (by simp)
    simp only [List.getElem_toArray, List.getElem_cons_succ, List.getElem_cons_zero] at p0 p1
    clear hall f1
    by_cases hlt : k < p.funcs.length
    · obtain ⟨b, off, rfl, hbs, vb, c0, c1, hbl⟩ := (HF.out.below fnStays hbw).at k hlt
      have hb2 := alloc_below wr (.cells #[.int .i64 p.funcs[k].sig, vb] 34)
      have hmem := List.getElem_mem hlt
      have HC := hid (mayFunc_calls p.types p.funcs.length p.funcs[k] (.slice ta p.types.length tc) vb (some ⟨b, off, none⟩) fc _ ((HT.out.below hbw).below hb2) (hbl.below blkStays hb2) ((HTAB.out.on hbw).on hb2) (HS.out.many _ hmem) HS.out.parts (HOK.out _ hmem))
      have HA := hid (all_take (q := mayF p.types p.funcs.length) hlt HALL.out)
      have HN := hid (all_not (q := mayF p.types p.funcs.length) hlt)
      have hbr2 := hbr.trans (hb2.mono hbr.size)
      obtain ⟨va, vc, rfl, _⟩ := hbl.slice
      have HBR := hid hbr2
      clear hbl hk hmem hbr hb2 hbr2
      generalize mayF p.types p.funcs.length p.funcs[k] = q at *
      generalize p.funcs[k] = x at *
      cases q with
      | false =>
        have HN2 := hid (HN.out rfl)
        clear HA HN
        go_wp2_with fail
        refine HC.out.mono ?_
        rintro e w3 ⟨rfl, hb3⟩
        have hbe3 := HBR.out.trans (hb3.mono HBR.out.size)
        clear HC hb3
        go_wp2
        go_ret
        exact ⟨by rw [HD.out, if_neg HN2.out]; rfl, HBE.out.trans (hbe3.mono HBE.out.size)⟩
      | true =>
        have HA2 := hid (HA.out rfl)
        clear HA HN
        go_wp2_with fail
        refine HC.out.mono ?_
        rintro e w3 ⟨rfl, hb3⟩
        have hbe3 := HBR.out.trans (hb3.mono HBR.out.size)
        clear HC hb3
        go_wp2
        go_roundg (gk - 1)
        case measure => have := HK.out; omega
        case rel => exact ⟨k + 1, by have := HK.out; omega, by go_num, HA2.out, hbe3⟩
    · obtain rfl : k = p.funcs.length := by omega
      have HA2 : Hid (ans = 0) := by
        show _ = _
        have := HALL.out
        rw [List.take_length] at this
        rw [HD.out, if_pos this]
      clear hk
      go_wp2
      go_ret
      exact ⟨by rw [HA2.out]; rfl, hbw⟩

end Go.Proofs.YtimnjkdhcnhkoaaDoor.ShI
namespace Go.Proofs.YtimnjkdhcnhkoaaDoor.FwP
open TyM ShM ShP ShE ShH ShI ShN FwM FwC

/-- the blocks that an end names -/
def toE (x : Ex) : List Int := if x.kind = 1 ∨ (x.kind = 2 ∧ x.to = x.els) then [x.to] else if x.kind = 2 then [x.to, x.els] else []
def endAt (l : List Bx) (i : Nat) : Ex := (l[i]?.getD default).en
def succ (l : List Bx) (i : Nat) : List Nat := if i < l.length then (toE (endAt l i)).map Int.toNat else []
/-- ends that name blocks that there are -/
def Low (l : List Bx) : Prop := ∀ i, i < l.length → ∀ j ∈ toE (endAt l i), 0 ≤ j ∧ j < l.length
theorem succ_lt {l : List Bx} (h : Low l) : ∀ i, i < l.length → ∀ j ∈ succ l i, j < l.length := by
  intro i hi j hj
  unfold succ at hj
  rw [if_pos hi] at hj
  obtain ⟨x, hx, rfl⟩ := List.mem_map.1 hj
  have := h i hi x hx
  omega
theorem succ_mem {l : List Bx} (h : Low l) {i j : Nat} (hi : i < l.length) : j ∈ succ l i ↔ (j : Int) ∈ toE (endAt l i) := by
  unfold succ
  rw [if_pos hi, List.mem_map]
  constructor
  · rintro ⟨x, hx, rfl⟩
    have := h i hi x hx
    rwa [Int.toNat_of_nonneg this.1]
  · intro hx
    exact ⟨_, hx, by omega⟩
theorem to_end {nr nb : Int} {x : Ex} (h : mayER nr nb x = true) : ∀ j ∈ toE x, 0 ≤ j ∧ j < nb := by
  intro j hj
  unfold toE at hj
  unfold mayER at h
  split at h
  · rename_i h1
    rw [if_pos (.inl h1)] at hj
    simp only [Bool.and_eq_true] at h
    rw [List.mem_singleton.1 hj]
    exact lowB_iff.1 h.2 x.to (by simp)
  split at h
  · simp only [Bool.and_eq_true] at h
    split at hj
    · rw [List.mem_singleton.1 hj]
      exact lowB_iff.1 h.2 x.to (by simp)
    · exact lowB_iff.1 h.2 j hj
  split at h
  · rename_i h1 h2 h3
    rw [if_neg (by omega), if_neg (by omega)] at hj
    cases hj
  · cases h
/-- the blocks of a program that may be name blocks that there are; they are few, and there is one -/
theorem low_of {p : Px} {f : Fx} (h : chkP p = 0) (ho : POk p) (hf : f ∈ p.funcs) : Low f.blocks ∧ 0 < f.blocks.length ∧ f.blocks.length ≤ 16 := by
  unfold chkP at h
  split at h
  · rename_i hc; exact absurd h hc
  split at h
  · exact absurd h (by decide)
  split at h
  · rename_i hall
    have hmf := List.all_eq_true.1 hall f hf
    unfold mayF at hmf
    split at hmf
    · cases hmf
    split at hmf
    · cases hmf
    split at hmf
    · cases hmf
    rename_i hbl
    refine ⟨fun i hi j hj => ?_, by omega, by omega⟩
    have hm : f.blocks[i] ∈ f.blocks := List.getElem_mem hi
    have hbb := List.all_eq_true.1 hmf _ hm
    unfold mayBl at hbb
    simp only [Bool.and_eq_true] at hbb
    have he := hbb.1
    rw [mayE_eq (ho f hf _ hm).1.1] at he
    have hea : endAt f.blocks i = (f.blocks[i]).en := by unfold endAt; rw [List.getElem?_eq_getElem hi]; rfl
    rw [hea] at hj
    exact to_end he j hj
  · exact absurd h (by decide)

/-! what is reached, the order, rounds, of a function's blocks -/
def aheadL (l : List Bx) (b : Nat) : List Nat := (List.range l.length).filter fun i => decide (b ∈ succ l i)
def reachedL (l : List Bx) : List Nat := (List.range l.length).filter fun i => has (comeO (succ l) (-1) l.length [0]) i
def orderedL (l : List Bx) : List Nat := order (succ l) l.length
def roundsL (l : List Bx) (b : Nat) : Bool := has (comeO (succ l) (-1) l.length (succ l b)) b
theorem ahead_mem {l : List Bx} {a b : Nat} : a ∈ aheadL l b ↔ a < l.length ∧ b ∈ succ l a := by
  unfold aheadL
  rw [List.mem_filter, List.mem_range, decide_eq_true_iff]
theorem reached_mem {l : List Bx} (h : Low l) (h0 : 0 < l.length) (v : Nat) : v ∈ reachedL l ↔ FwM.Comes (succ l) 0 v := by
  unfold reachedL
  rw [List.mem_filter, List.mem_range, come_iff (succ_lt h) (fun a ha => by rw [List.mem_singleton.1 ha]; exact h0), way_comes (by decide)]
  constructor
  · rintro ⟨_, a, ha, hc⟩
    rw [List.mem_singleton.1 ha] at hc
    exact hc
  · intro hc
    exact ⟨hc.lt (succ_lt h) h0, 0, by simp, hc⟩
theorem rounds_iff {l : List Bx} (h : Low l) {b : Nat} (hb : b < l.length) : roundsL l b = true ↔ ∃ a ∈ succ l b, FwM.Comes (succ l) a b := by
  unfold roundsL
  rw [come_iff (succ_lt h) (succ_lt h b hb), way_comes (by decide)]
/-- what is reached is rising -/
theorem reached_up (l : List Bx) : (reachedL l).Pairwise (· < ·) := List.Pairwise.filter _ List.pairwise_lt_range
theorem pair_nodup {l : List Nat} (h : l.Pairwise (· < ·)) : l.Nodup := h.imp fun h e => absurd h (by omega)
theorem nodup_same : ∀ {a b : List Nat}, a.Nodup → b.Nodup → (∀ v, v ∈ a ↔ v ∈ b) → a.length = b.length
  | [], b, _, _, h => by
    cases b with
    | nil => rfl
    | cons x b => exact absurd ((h x).2 (by simp)) (by simp)
  | x :: a, b, ha, hb, h => by
    have hx : x ∈ b := (h x).1 (by simp)
    have ha' := List.nodup_cons.1 ha
    have h1 := nodup_same ha'.2 (hb.erase x) (fun v => by
      rw [hb.mem_erase_iff]
      constructor
      · intro hv
        exact ⟨fun e => ha'.1 (e ▸ hv), (h v).1 (by simp [hv])⟩
      · rintro ⟨hne, hv⟩
        rcases List.mem_cons.1 ((h v).2 hv) with e | hv
        · exact absurd e hne
        · exact hv)
    rw [List.length_erase_of_mem hx] at h1
    have : 0 < b.length := List.length_pos_of_mem hx
    simp only [List.length_cons]
    omega
/-- the order has as many as are reached -/
theorem order_len {l : List Bx} (h : Low l) (h0 : 0 < l.length) : (orderedL l).length = (reachedL l).length :=
  nodup_same (order_nodup h0 (succ_lt h)) (pair_nodup (reached_up l)) fun v => (order_mem h0 (succ_lt h) v).trans (reached_mem h h0 v).symm
/-- what those go to that are reached is reached; and only block 0 besides -/
theorem reached_step {l : List Bx} (h : Low l) (h0 : 0 < l.length) (b : Nat) : b ∈ reachedL l ↔ b = 0 ∨ ∃ a ∈ aheadL l b, a ∈ reachedL l := by
  rw [reached_mem h h0]
  constructor
  · intro hc
    cases hc with
    | here => exact .inl rfl
    | step hb hm =>
      exact .inr ⟨_, ahead_mem.2 ⟨hb.lt (succ_lt h) h0, hm⟩, (reached_mem h h0 _).2 hb⟩
  · rintro (rfl | ⟨a, ha, hr⟩)
    · exact .here
    · exact .step ((reached_mem h h0 a).1 hr) (ahead_mem.1 ha).2
end Go.Proofs.YtimnjkdhcnhkoaaDoor.FwP
namespace Go.Proofs.YtimnjkdhcnhkoaaDoor.PgB
open Go.RowKit Go.Lib RwO SetP IntO TyM TyP TyB ShM ShP ShB ShI

/-- a program, and old memory stays -/
def ProgR (p : Px) (w : World) (e : Ending) (w' : World) : Prop := ∃ v, e = .returned v ∧ PrAt w' v p ∧ Below w.heap.size w w'
theorem alloc_newn (w : World) (o : Obj) (n : Nat) (h : w.heap.size = n) : (w.alloc o).heap[n]? = some o := by subst h; exact alloc_new w o
theorem keepBlk {w w' : World} {b : Nat} {o : Obj} (hW : Below w.heap.size w w') (h : w.heap[b]? = some o) : w'.heap[b]? = some o := (hW.block b (Array.getElem?_eq_some_iff.1 h).1).trans h
/-- a row in a block of its own -/
theorem row_block {α : Type} {sz : Nat} {In : World → Nat → Nat → α → Prop} {W : World} {b n : Nat} {l : List α} (hb : b < W.heap.size) (hn : n = l.length) (hl : l.length ≤ 100000) (hin : ∀ i (h : i < l.length), In W b (0 + i * sz) l[i]) : RowAt sz In W (.slice (some ⟨b, 0, none⟩) n n) l := by
  subst hn
  exact ⟨some ⟨b, 0, none⟩, l.length, rfl, by omega, fun _ => ⟨b, 0, rfl, hb, hin⟩, (fun h => by cases h), Nat.le_refl _⟩
theorem cells_of {W : World} {b : Nat} {cs : Array Value} {ty : TypeId} (h : W.heap[b]? = some (.cells cs ty (0, 0))) (i : Nat) (v : Value) (hv : cs[i]? = some v) : W.cell? ⟨b, i, none⟩ = some v := by
  unfold World.cell?; rw [h]; exact hv
theorem lt_of {W : World} {b : Nat} {o : Obj} (h : W.heap[b]? = some o) : b < W.heap.size := (Array.getElem?_eq_some_iff.1 h).1
theorem ints_blk {W : World} {b n : Nat} {l : List Int} {cs : Array Value} {ty : TypeId} (h : W.heap[b]? = some (.cells cs ty (0, 0))) (hc : cs = (intVals l).toArray) (hn : n = l.length) (hl : l.length ≤ 1000 := by decide) : IntsAt W (.slice (some ⟨b, 0, none⟩) n n) l := by
  subst hc
  subst hn
  exact ⟨some ⟨b, 0, none⟩, l.length, rfl, by omega, fun _ => ⟨b, 0, rfl, lt_of h, fun i hi => cells_of h _ _ (by simp [intVals, hi])⟩, (fun h => by cases h), Nat.le_refl _⟩
theorem tys_blk {W : World} {b n : Nat} {l : List Ty} (hb : b < W.heap.size) (hn : n = l.length) (hl : l.length ≤ 100000) (hin : ∀ i (h : i < l.length), TyIn W b (0 + i * 4) l[i]) : TysAt W (.slice (some ⟨b, 0, none⟩) n n) l := by
  subst hn
  exact ⟨some ⟨b, 0, none⟩, l.length, rfl, by omega, fun _ => ⟨b, 0, rfl, hb, hin⟩, (fun h => by cases h), Nat.le_refl _⟩
/-- from a block on as it was -/
def Agree (B : Nat) (w X : World) : Prop := w.heap.size ≤ X.heap.size ∧ ∀ b, B ≤ b → b < w.heap.size → X.heap[b]? = w.heap[b]?
theorem Agree.refl (B : Nat) (w : World) : Agree B w w := ⟨Nat.le_refl _, fun _ _ _ => rfl⟩
theorem Agree.base {B C : Nat} {w X : World} (h : Agree B w X) (hc : B ≤ C) : Agree C w X := ⟨h.1, fun b hb hl => h.2 b (Nat.le_trans hc hb) hl⟩
theorem Agree.below {B : Nat} {w w1 X : World} (h : Agree B w1 X) (hb : Below w.heap.size w w1) : Agree B w X := ⟨Nat.le_trans hb.size h.1, fun b hB hl => (h.2 b hB (Nat.lt_of_lt_of_le hl hb.size)).trans (hb.block b hl)⟩
theorem Agree.set {B b i : Nat} {w : World} {u : Value} (hb : b < B) : Agree B w (w.setCell ⟨b, i, none⟩ u) := ⟨by simp [World.setCell], fun c hc _ => Below.heap_setCell _ _ _ c (by show c ≠ b; omega)⟩
theorem Agree.trans {B : Nat} {w w1 w2 : World} (h : Agree B w w1) (k : Agree B w1 w2) : Agree B w w2 := ⟨Nat.le_trans h.1 k.1, fun b hb hl => (k.2 b hb (Nat.lt_of_lt_of_le hl h.1)).trans (h.2 b hb hl)⟩
theorem Agree.blk {B b : Nat} {w X : World} {o : Obj} (h : Agree B w X) (hb : B ≤ b) (hk : w.heap[b]? = some o) : X.heap[b]? = some o := (h.2 b hb (Array.getElem?_eq_some_iff.1 hk).1).trans hk
theorem owns_agree {w X : World} {B n s : Nat} {e : TypeId} {v : Value} {xs : List Value} (h : w.ownsRow B e s v n xs) (ha : Agree B w X) : X.ownsRow B e s v n xs := by
  obtain ⟨h1, h2⟩ := h
  refine ⟨h1, ?_⟩
  rcases h2 with h2 | ⟨g, cap, cur, hv, hg, hh, r⟩
  · exact .inl h2
  · exact .inr ⟨g, cap, cur, hv, hg, ha.blk hg hh, r⟩
theorem ir_agree {B : Nat} {w X : World} {y : Ir} (h : OwnIr B w y) (ha : Agree B w X) : OwnIr B X y := ⟨owns_agree h.1 ha, owns_agree h.2 ha⟩
theorem inss_agree {B : Nat} {w X : World} {v : Value} {r : List Ir} (h : OwnIns B w v r) (ha : Agree B w X) : OwnIns B X v r := ⟨owns_agree h.1 ha, fun y hy => ir_agree (h.2 y hy) ha⟩
theorem blks_agree {B : Nat} {w X : World} {v : Value} {r : List Br} (h : OwnBlks B w v r) (ha : Agree B w X) : OwnBlks B X v r := ⟨owns_agree h.1 ha, fun y hy => inss_agree (h.2 y hy) ha⟩
/-- a program whose memory is new: it is there in every world that agrees from the call's beginning on -/
def ProgS (p : Px) (w : World) (e : Ending) (w' : World) : Prop := ∃ v, e = .returned v ∧ (∀ Z, Agree w.heap.size w' Z → PrAt Z v p) ∧ Below w.heap.size w w'
theorem ProgS.r {p : Px} {w : World} {e : Ending} {w' : World} (h : ProgS p w e w') : ProgR p w e w' := by
  obtain ⟨v, h1, h2, h3⟩ := h
  exact ⟨v, h1, h2 w' (Agree.refl _ _), h3⟩
end Go.Proofs.YtimnjkdhcnhkoaaDoor.PgB
namespace Go.Proofs.YtimnjkdhcnhkoaaDoor.FyP
open Go.RowKit Go.Lib SetP IntO TyM TyP TyB ShM ShP ShB ShI PgB 

/-- the program that fescue/fescuelaw09.chapter writes out -/
def chapP : Px := ⟨[⟨1, 0, 0, []⟩, ⟨3, 0, 0, []⟩], [⟨1, [⟨[⟨1, 0, 0, 0, 0, [], []⟩], ⟨2, 0, 1, 2⟩⟩, ⟨[], ⟨1, 0, 0, 0⟩⟩, ⟨[], ⟨3, 0, 0, 0⟩⟩]⟩]⟩
def chapW (w : World) : World := (((((w.alloc (.cells #[.slice (some ⟨w.heap.size + 1 + 1 + 1, 0, none⟩) 2 2, .slice (some ⟨w.heap.size + 1 + 1 + 1 + 1, 0, none⟩) 1 1] 25)).alloc (.cells #[.int .u8 1, .int .i64 0, .int .i64 0, .int .i64 0, .int .i64 0, .slice none 0 0, .slice none 0 0] 55)).alloc (.cells #[.slice (some ⟨w.heap.size + 1, 0, none⟩) 1 1, .int .u8 2, .int .i64 0, .int .i64 1, .int .i64 2, .slice none 0 0, .int .u8 1, .int .i64 0, .int .i64 0, .int .i64 0, .slice none 0 0, .int .u8 3, .int .i64 0, .int .i64 0, .int .i64 0] 31)).alloc (.cells #[.int .u8 1, .int .i64 0, .int .i64 0, .slice none 0 0, .int .u8 3, .int .i64 0, .int .i64 0, .slice none 0 0] 57)).alloc (.cells #[.int .i64 1, .slice (some ⟨w.heap.size + 1 + 1, 0, none⟩) 3 3] 34))
theorem chap_h0 (w : World) : (chapW w).heap[w.heap.size]? = some (.cells #[.slice (some ⟨w.heap.size + 1 + 1 + 1, 0, none⟩) 2 2, .slice (some ⟨w.heap.size + 1 + 1 + 1 + 1, 0, none⟩) 1 1] 25 (0, 0)) := alloc_old (alloc_old (alloc_old (alloc_old (alloc_new _ _) _) _) _) _
theorem chap_h1 (w : World) : (chapW w).heap[w.heap.size + 1]? = some (.cells #[.int .u8 1, .int .i64 0, .int .i64 0, .int .i64 0, .int .i64 0, .slice none 0 0, .slice none 0 0] 55 (0, 0)) := alloc_old (alloc_old (alloc_old (alloc_newn _ _ _ (by simp only [World.size_alloc])) _) _) _
theorem chap_h2 (w : World) : (chapW w).heap[w.heap.size + 1 + 1]? = some (.cells #[.slice (some ⟨w.heap.size + 1, 0, none⟩) 1 1, .int .u8 2, .int .i64 0, .int .i64 1, .int .i64 2, .slice none 0 0, .int .u8 1, .int .i64 0, .int .i64 0, .int .i64 0, .slice none 0 0, .int .u8 3, .int .i64 0, .int .i64 0, .int .i64 0] 31 (0, 0)) := alloc_old (alloc_old (alloc_newn _ _ _ (by simp only [World.size_alloc])) _) _
theorem chap_h3 (w : World) : (chapW w).heap[w.heap.size + 1 + 1 + 1]? = some (.cells #[.int .u8 1, .int .i64 0, .int .i64 0, .slice none 0 0, .int .u8 3, .int .i64 0, .int .i64 0, .slice none 0 0] 57 (0, 0)) := alloc_old (alloc_newn _ _ _ (by simp only [World.size_alloc])) _
theorem chap_h4 (w : World) : (chapW w).heap[w.heap.size + 1 + 1 + 1 + 1]? = some (.cells #[.int .i64 1, .slice (some ⟨w.heap.size + 1 + 1, 0, none⟩) 3 3] 34 (0, 0)) := alloc_newn _ _ _ (by simp only [World.size_alloc])
theorem chap_below (w : World) : Below w.heap.size w (chapW w) := by
  unfold chapW
  repeat' (first | exact alloc_below _ _ | refine Below.alloc ?_ (by simp only [World.size_alloc]; omega) _)
set_option maxRecDepth 100000 in
theorem chap_at {W : World} {b1 b2 b3 b4 : Nat} (k1 : W.heap[b1]? = some (.cells #[.int .u8 1, .int .i64 0, .int .i64 0, .int .i64 0, .int .i64 0, .slice none 0 0, .slice none 0 0] 55 (0, 0))) (k2 : W.heap[b2]? = some (.cells #[.slice (some ⟨b1, 0, none⟩) 1 1, .int .u8 2, .int .i64 0, .int .i64 1, .int .i64 2, .slice none 0 0, .int .u8 1, .int .i64 0, .int .i64 0, .int .i64 0, .slice none 0 0, .int .u8 3, .int .i64 0, .int .i64 0, .int .i64 0] 31 (0, 0))) (k3 : W.heap[b3]? = some (.cells #[.int .u8 1, .int .i64 0, .int .i64 0, .slice none 0 0, .int .u8 3, .int .i64 0, .int .i64 0, .slice none 0 0] 57 (0, 0))) (k4 : W.heap[b4]? = some (.cells #[.int .i64 1, .slice (some ⟨b2, 0, none⟩) 3 3] 34 (0, 0))) : PrAt W (.agg #[.slice (some ⟨b3, 0, none⟩) 2 2, .slice (some ⟨b4, 0, none⟩) 1 1]) chapP := by
  have i0 : InsAt W (.slice (some ⟨b1, 0, none⟩) 1 1) [⟨1, 0, 0, 0, 0, [], []⟩] := row_block (lt_of k1) rfl (by simp) fun i h => by
    obtain rfl : i = 0 := by have : i < 1 := h; omega
    exact ⟨_, _, cells_of k1 0 _ rfl, cells_of k1 1 _ rfl, cells_of k1 2 _ rfl, cells_of k1 3 _ rfl, cells_of k1 4 _ rfl, cells_of k1 5 _ rfl, cells_of k1 6 _ rfl, ints_none W, ints_none W⟩
  have i1 : BlksAt W (.slice (some ⟨b2, 0, none⟩) 3 3) _ := row_block (l := [⟨[⟨1, 0, 0, 0, 0, [], []⟩], ⟨2, 0, 1, 2⟩⟩, ⟨[], ⟨1, 0, 0, 0⟩⟩, ⟨[], ⟨3, 0, 0, 0⟩⟩]) (lt_of k2) rfl (by simp) fun i h => by
    have hi : i = 0 ∨ i = 1 ∨ i = 2 := by have : i < 3 := h; omega
    rcases hi with rfl | rfl | rfl
    · exact ⟨_, cells_of k2 0 _ rfl, cells_of k2 1 _ rfl, cells_of k2 2 _ rfl, cells_of k2 3 _ rfl, cells_of k2 4 _ rfl, i0⟩
    · exact ⟨_, cells_of k2 5 _ rfl, cells_of k2 6 _ rfl, cells_of k2 7 _ rfl, cells_of k2 8 _ rfl, cells_of k2 9 _ rfl, RowAt.none W⟩
    · exact ⟨_, cells_of k2 10 _ rfl, cells_of k2 11 _ rfl, cells_of k2 12 _ rfl, cells_of k2 13 _ rfl, cells_of k2 14 _ rfl, RowAt.none W⟩
  refine ⟨_, _, rfl, ?_, ?_⟩
  · refine tys_blk (l := chapP.types) (lt_of k3) rfl (by simp [chapP]) fun i h => ?_
    have hi : i = 0 ∨ i = 1 := by have : i < 2 := h; omega
    rcases hi with rfl | rfl
    · exact ⟨_, cells_of k3 0 _ rfl, cells_of k3 1 _ rfl, cells_of k3 2 _ rfl, cells_of k3 3 _ rfl, ints_none W⟩
    · exact ⟨_, cells_of k3 4 _ rfl, cells_of k3 5 _ rfl, cells_of k3 6 _ rfl, cells_of k3 7 _ rfl, ints_none W⟩
  · refine row_block (l := chapP.funcs) (lt_of k4) rfl (by simp [chapP]) fun i h => ?_
    obtain rfl : i = 0 := by have : i < 1 := h; omega
    exact ⟨_, cells_of k4 0 _ rfl, cells_of k4 1 _ rfl, i1⟩
theorem chap_prog (w W : World) (hW : Below (chapW w).heap.size (chapW w) W) : PrAt W (.agg #[.slice (some ⟨w.heap.size + 1 + 1 + 1, 0, none⟩) 2 2, .slice (some ⟨w.heap.size + 1 + 1 + 1 + 1, 0, none⟩) 1 1]) chapP :=
  chap_at (keepBlk hW (chap_h1 w)) (keepBlk hW (chap_h2 w)) (keepBlk hW (chap_h3 w)) (keepBlk hW (chap_h4 w))
theorem chap_size (w : World) : (chapW w).heap.size = w.heap.size + 1 + 1 + 1 + 1 + 1 := by
  unfold chapW
  simp only [World.size_alloc]
set_option maxRecDepth 100000 in
set_option maxHeartbeats 8000000 in
theorem chap_world (w : World) : Calls Tryd.prog 8 #[] w fun e w' => e = .returned (.agg #[.slice (some ⟨w.heap.size + 1 + 1 + 1, 0, none⟩) 2 2, .slice (some ⟨w.heap.size + 1 + 1 + 1 + 1, 0, none⟩) 1 1]) ∧ w' = chapW w := by
  go_enter Tryd.func8, Tryd.ntmps8
  go_wp2
  go_returns
  exact ⟨rfl, rfl⟩
theorem chap_calls (w : World) : Calls Tryd.prog 8 #[] w (ProgR chapP w) :=
  (chap_world w).mono fun e w' ⟨h1, h2⟩ => ⟨_, h1, by rw [h2]; exact chap_prog w _ (Below.refl _ _), by rw [h2]; exact chap_below w⟩
theorem chap_small : Small chapP := ⟨by decide, by decide, by decide, by decide, by decide, by decide⟩
theorem chap_ok : POk chapP := by unfold POk; decide
end Go.Proofs.YtimnjkdhcnhkoaaDoor.FyP
namespace Go.Proofs.YtimnjkdhcnhkoaaDoor.FyP2
open Go.RowKit Go.Lib SetP IntO TyM TyP TyB ShM ShP ShB ShI PgB 

def chap2P : Px := ⟨[⟨1, 0, 0, []⟩, ⟨3, 0, 0, []⟩], [⟨1, [⟨[⟨1, 0, 0, 0, 0, [], []⟩], ⟨2, 0, 1, 1⟩⟩, ⟨[], ⟨1, 0, 0, 0⟩⟩, ⟨[], ⟨3, 0, 0, 0⟩⟩]⟩]⟩
set_option maxRecDepth 100000 in
theorem chap2_at {W : World} {b1 b2 b3 b4 : Nat} (k1 : W.heap[b1]? = some (.cells #[.int .u8 1, .int .i64 0, .int .i64 0, .int .i64 0, .int .i64 0, .slice none 0 0, .slice none 0 0] 55 (0, 0))) (k2 : W.heap[b2]? = some (.cells #[.slice (some ⟨b1, 0, none⟩) 1 1, .int .u8 2, .int .i64 0, .int .i64 1, .int .i64 1, .slice none 0 0, .int .u8 1, .int .i64 0, .int .i64 0, .int .i64 0, .slice none 0 0, .int .u8 3, .int .i64 0, .int .i64 0, .int .i64 0] 31 (0, 0))) (k3 : W.heap[b3]? = some (.cells #[.int .u8 1, .int .i64 0, .int .i64 0, .slice none 0 0, .int .u8 3, .int .i64 0, .int .i64 0, .slice none 0 0] 57 (0, 0))) (k4 : W.heap[b4]? = some (.cells #[.int .i64 1, .slice (some ⟨b2, 0, none⟩) 3 3] 34 (0, 0))) : PrAt W (.agg #[.slice (some ⟨b3, 0, none⟩) 2 2, .slice (some ⟨b4, 0, none⟩) 1 1]) chap2P := by
  have i0 : InsAt W (.slice (some ⟨b1, 0, none⟩) 1 1) [⟨1, 0, 0, 0, 0, [], []⟩] := row_block (lt_of k1) rfl (by simp) fun i h => by
    obtain rfl : i = 0 := by have : i < 1 := h; omega
    exact ⟨_, _, cells_of k1 0 _ rfl, cells_of k1 1 _ rfl, cells_of k1 2 _ rfl, cells_of k1 3 _ rfl, cells_of k1 4 _ rfl, cells_of k1 5 _ rfl, cells_of k1 6 _ rfl, ints_none W, ints_none W⟩
  have i1 : BlksAt W (.slice (some ⟨b2, 0, none⟩) 3 3) _ := row_block (l := [⟨[⟨1, 0, 0, 0, 0, [], []⟩], ⟨2, 0, 1, 1⟩⟩, ⟨[], ⟨1, 0, 0, 0⟩⟩, ⟨[], ⟨3, 0, 0, 0⟩⟩]) (lt_of k2) rfl (by simp) fun i h => by
    have hi : i = 0 ∨ i = 1 ∨ i = 2 := by have : i < 3 := h; omega
    rcases hi with rfl | rfl | rfl
    · exact ⟨_, cells_of k2 0 _ rfl, cells_of k2 1 _ rfl, cells_of k2 2 _ rfl, cells_of k2 3 _ rfl, cells_of k2 4 _ rfl, i0⟩
    · exact ⟨_, cells_of k2 5 _ rfl, cells_of k2 6 _ rfl, cells_of k2 7 _ rfl, cells_of k2 8 _ rfl, cells_of k2 9 _ rfl, RowAt.none W⟩
    · exact ⟨_, cells_of k2 10 _ rfl, cells_of k2 11 _ rfl, cells_of k2 12 _ rfl, cells_of k2 13 _ rfl, cells_of k2 14 _ rfl, RowAt.none W⟩
  refine ⟨_, _, rfl, ?_, ?_⟩
  · refine tys_blk (l := chap2P.types) (lt_of k3) rfl (by simp [chap2P]) fun i h => ?_
    have hi : i = 0 ∨ i = 1 := by have : i < 2 := h; omega
    rcases hi with rfl | rfl
    · exact ⟨_, cells_of k3 0 _ rfl, cells_of k3 1 _ rfl, cells_of k3 2 _ rfl, cells_of k3 3 _ rfl, ints_none W⟩
    · exact ⟨_, cells_of k3 4 _ rfl, cells_of k3 5 _ rfl, cells_of k3 6 _ rfl, cells_of k3 7 _ rfl, ints_none W⟩
  · refine row_block (l := chap2P.funcs) (lt_of k4) rfl (by simp [chap2P]) fun i h => ?_
    obtain rfl : i = 0 := by have : i < 1 := h; omega
    exact ⟨_, cells_of k4 0 _ rfl, cells_of k4 1 _ rfl, i1⟩
theorem chap2_small : Small chap2P := ⟨by decide, by decide, by decide, by decide, by decide, by decide⟩
theorem chap2_ok : POk chap2P := by unfold POk; decide
/-- no types, no functions -/
def noP : Px := ⟨[], []⟩
theorem no_at (W : World) : PrAt W (.agg #[.slice none 0 0, .slice none 0 0]) noP := ⟨_, _, rfl, ⟨none, 0, rfl, by simp [noP], (fun h => by simp [noP] at h), (fun _ => rfl), by simp [noP]⟩, RowAt.none W⟩
theorem no_small : Small noP := ⟨by decide, by decide, by decide, by decide, by decide, by decide⟩
theorem no_ok : POk noP := by unfold POk; decide
end Go.Proofs.YtimnjkdhcnhkoaaDoor.FyP2
namespace Go.Proofs.YtimnjkdhcnhkoaaDoor.ShI
open Go.RowKit Go.Lib SetP IntO TyM TyP TyB TyC ShM ShP ShA ShB ShC ShE ShQ ShF ShG ShH

set_option maxRecDepth 100000 in
set_option maxHeartbeats 2000000 in
theorem find_calls (p : Px) (f : Int) (v : Value) (w : World) (hp : PrAt w v p) (htab : Tab w) (hs : Small p) (hok : POk p) :
    Calls Tryd.prog 50 #[v, .int .i64 f] w (NumR (findP p f) w) := by
  have hp0 := hp
  obtain ⟨vt, vf, rfl, ht, hf⟩ := hp
  have hb0 := alloc_below w (.cells #[vt, vf] 25)
  have HC := hid (check_calls p _ _ (hp0.below hb0) (htab.on hb0) hs hok)
  obtain ⟨ta, tc, rfl⟩ := ht.slice
  obtain ⟨fa, fc, rfl, hfl⟩ := hf.slice
  have HD : Hid (findP p f = if chkP p ≠ 0 then chkP p else if 0 ≤ f ∧ f < p.funcs.length then 0 else 2) := rfl
  clear ht hf htab hs hok hp0
  generalize findP p f = ans at *
  generalize chkP p = ct at *
  generalize p.types.length = n1 at *
  generalize p.funcs.length = n2 at *
  by_cases hc : ct = 0
  rotate_left
  · rw [if_pos hc] at HD
    have e0 : (ct != 0) = true := by simpa using hc
    clear hc
    go_enter Tryd.func50, Tryd.ntmps50
    go_wp2_with fail
    refine HC.out.mono ?_
    rintro e w1 ⟨rfl, hb1⟩
    have hbe := hb0.trans (hb1.mono hb0.size)
    clear HC hb1
    go_wp2
    go_ret
    exact ⟨by rw [HD.out]; rfl, hbe⟩
  subst hc
  rw [if_neg (fun h => h rfl)] at HD
  have HB := hid (fun (wx : World) => ShE.below_calls n2 (.slice (some ⟨wx.heap.size, 0, none⟩) 1 1) [f] (wx.alloc (.cells #[.int .i64 f] 3)) (ints_one (cell_new _ _ _ _ rfl) (size_new _ _ _ rfl)))
  rw [low_one] at HB
  cases hd : decide (0 ≤ f ∧ f < (n2 : Int)) with
  | false =>
    rw [hd] at HB
    rw [if_neg (of_decide_eq_false hd)] at HD
    clear hd
    go_enter Tryd.func50, Tryd.ntmps50
    go_wp2_with fail
    refine HC.out.mono ?_
    rintro e w1 ⟨rfl, hb1⟩
    have hbe := hb0.trans (hb1.mono hb0.size)
    obtain ⟨f1, _, s1, _⟩ := copyF (alloc_new _ _) hb1 (by simp only [World.size_alloc]; omega)
    have p1 := f1 1 (by simp)
    simp only [List.getElem_toArray, List.getElem_cons_succ, List.getElem_cons_zero] at p1
    have HB1 := hid (HB.out w1)
    clear HC hb1 HB f1
    go_wp2_with fail
    refine HB1.out.mono ?_
    rintro e w2 ⟨rfl, hb2⟩
    have hbe2 := (hbe.alloc hbe.size (.cells #[.int .i64 f] 3)).trans (hb2.mono (hbe.alloc hbe.size _).size)
    clear HB1 hb2
    go_wp2
    go_ret
    exact ⟨by rw [HD.out]; rfl, hbe2⟩
  | true =>
    rw [hd] at HB
    rw [if_pos (of_decide_eq_true hd)] at HD
    clear hd
    go_enter Tryd.func50, Tryd.ntmps50
    go_wp2_with fail
    refine HC.out.mono ?_
    rintro e w1 ⟨rfl, hb1⟩
    have hbe := hb0.trans (hb1.mono hb0.size)
    obtain ⟨f1, _, s1, _⟩ := copyF (alloc_new _ _) hb1 (by simp only [World.size_alloc]; omega)
    have p1 := f1 1 (by simp)
    simp only [List.getElem_toArray, List.getElem_cons_succ, List.getElem_cons_zero] at p1
    have HB1 := hid (HB.out w1)
    clear HC hb1 HB f1
    go_wp2_with fail
    refine HB1.out.mono ?_
    rintro e w2 ⟨rfl, hb2⟩
    have hbe2 := (hbe.alloc hbe.size (.cells #[.int .i64 f] 3)).trans (hb2.mono (hbe.alloc hbe.size _).size)
    clear HB1 hb2
    go_wp2
    go_ret
    exact ⟨by rw [HD.out]; rfl, hbe2⟩
end Go.Proofs.YtimnjkdhcnhkoaaDoor.ShI
namespace Go.Proofs.YtimnjkdhcnhkoaaDoor.ShJ
open Go.RowKit Go.Lib SetP IntO TyM TyP TyB TyC ShM ShP ShA ShB ShC ShE ShQ ShF ShG ShH ShI

/-- a function that may be -/
theorem find_zero {p : Px} {f : Int} (h : findP p f = 0) : chkP p = 0 ∧ 0 ≤ f ∧ f < p.funcs.length := by
  unfold findP at h
  by_cases h1 : chkP p = 0
  · rw [if_neg (fun e => e h1)] at h
    by_cases h2 : 0 ≤ f ∧ f < p.funcs.length
    · exact ⟨h1, h2⟩
    · rw [if_neg h2] at h; omega
  · rw [if_pos h1] at h; exact absurd h h1
theorem chk_zero {p : Px} (h : chkP p = 0) : chkT p.types = 0 ∧ 1 ≤ p.funcs.length ∧ p.funcs.length ≤ 8 ∧ ∀ f ∈ p.funcs, mayF p.types p.funcs.length f = true := by
  unfold chkP at h
  by_cases h1 : chkT p.types = 0
  · rw [if_neg (fun e => e h1)] at h
    by_cases h2 : p.funcs.length < 1 ∨ 8 < p.funcs.length
    · rw [if_pos h2] at h; omega
    · rw [if_neg h2] at h
      by_cases h3 : p.funcs.all (mayF p.types p.funcs.length) = true
      · exact ⟨h1, by omega, by omega, List.all_eq_true.1 h3⟩
      · rw [if_neg h3] at h; omega
  · rw [if_pos h1] at h; exact absurd h h1
theorem may_zero {t : List Ty} {nf : Nat} {f : Fx} (h : mayF t nf f = true) : (0 ≤ f.sig ∧ f.sig < t.length) ∧ kindAt t f.sig = 3 ∧ 1 ≤ f.blocks.length ∧ f.blocks.length ≤ 16 ∧ manyB f.blocks ≤ 128 := by
  unfold mayF at h
  by_cases h1 : 0 ≤ f.sig ∧ f.sig < t.length
  · rw [if_neg (fun e => e h1)] at h
    by_cases h2 : kindAt t f.sig = 3
    · rw [if_neg (fun e => e h2)] at h
      by_cases h3 : f.blocks.length < 1 ∨ 16 < f.blocks.length ∨ 128 < manyB f.blocks
      · rw [if_pos h3] at h; cases h
      · exact ⟨h1, h2, by omega, by omega, by omega⟩
    · rw [if_pos h2] at h; cases h
  · rw [if_pos h1] at h; cases h
/-- a program's function, where there is one -/
structure Has1 (p : Px) (f : Int) (k : Nat) (x : Fx) : Prop where
  eq : f = k
  lt : k < p.funcs.length
  at_ : p.funcs[k]? = some x
  sig0 : 0 ≤ x.sig
  sig1 : x.sig < p.types.length
  blocks1 : 1 ≤ x.blocks.length
  blocks : x.blocks.length ≤ 16
  many : manyB x.blocks ≤ 128
theorem has1 {p : Px} {f : Int} (h : findP p f = 0) : ∃ k x, Has1 p f k x := by
  obtain ⟨h1, h2, h3⟩ := find_zero h
  obtain ⟨_, _, _, h4⟩ := chk_zero h1
  have hk : f.toNat < p.funcs.length := by omega
  obtain ⟨⟨a, b⟩, _, c, d, e⟩ := may_zero (h4 _ (List.getElem_mem hk))
  exact ⟨f.toNat, p.funcs[f.toNat], by omega, hk, List.getElem?_eq_getElem hk, a, b, c, d, e⟩
/-- how many registers a function has -/
def cntP (p : Px) (f : Int) : Nat := match p.funcs[f.toNat]? with
  | some x => parOf p.types x.sig + manyB x.blocks
  | none => 0
theorem cnt_at {p : Px} {f : Int} {k : Nat} {x : Fx} (h : Has1 p f k x) : cntP p f = parOf p.types x.sig + manyB x.blocks := by
  unfold cntP
  rw [h.eq, Int.toNat_natCast, h.at_]
theorem par_le {t : List Ty} {s : Int} (hp : ∀ x ∈ t, x.parts.length ≤ 20000) (h0 : 0 ≤ s) (h1 : s < t.length) : parOf t s ≤ 20000 := by
  have hk : s.toNat < t.length := by omega
  have := parOf_at hk
  rw [Int.toNat_of_nonneg h0] at this
  rw [this]
  exact hp _ (List.getElem_mem hk)
/-- two numbers, and old memory stays -/
def TwoR (n m : Int) (w : World) (e : Ending) (w' : World) : Prop := e = .returned (.tuple #[.int .i64 n, .int .i64 m]) ∧ Below w.heap.size w w'
def ThreeR (n m k : Int) (w : World) (e : Ending) (w' : World) : Prop := e = .returned (.tuple #[.int .i64 n, .int .i64 m, .int .i64 k]) ∧ Below w.heap.size w w'
/-- one of the functions in memory -/
theorem fn_at {w : World} {vf : Value} {p : Px} {f : Int} {k : Nat} {x : Fx} (h : FnsAt w vf p.funcs) (h1 : Has1 p f k x) : ∃ b off cap vb, vf = .slice (some ⟨b, off, none⟩) p.funcs.length cap ∧ b < w.heap.size ∧ w.cell? ⟨b, off + k * 2, none⟩ = some (.int .i64 x.sig) ∧ w.cell? ⟨b, off + k * 2 + 1, none⟩ = some vb ∧ BlksAt w vb x.blocks := by
  obtain ⟨ao, cap, rfl, _⟩ := h.slice
  obtain ⟨b, off, rfl, hb, vb, c0, c1, hbl⟩ := h.at k h1.lt
  have : p.funcs[k]'h1.lt = x := by
    have := h1.at_
    rw [List.getElem?_eq_getElem h1.lt] at this
    exact Option.some.inj this
  rw [this] at c0 hbl
  exact ⟨b, off, cap, vb, rfl, hb, c0, c1, hbl⟩

end Go.Proofs.YtimnjkdhcnhkoaaDoor.ShJ
namespace Go.Proofs.YtimnjkdhcnhkoaaDoor.FwQ
open TyM ShM ShP ShE ShH ShI ShN ShJ FwM FwC FwP

/-- numbers of blocks, as the program has them -/
def ints (l : List Nat) : List Int := l.map fun (n : Nat) => (n : Int)
theorem ints_length (l : List Nat) : (ints l).length = l.length := by simp [ints]
theorem ints_append (s t : List Nat) : ints (s ++ t) = ints s ++ ints t := by simp [ints]
theorem ints_mem {l : List Nat} {n : Nat} : (n : Int) ∈ ints l ↔ n ∈ l := by
  unfold ints
  rw [List.mem_map]
  constructor
  · rintro ⟨m, hm, e⟩
    have : m = n := by omega
    exact this ▸ hm
  · intro h; exact ⟨n, h, rfl⟩
theorem ints_nonneg {l : List Nat} {n : Int} (h : n ∈ ints l) : 0 ≤ n := by
  unfold ints at h
  obtain ⟨m, _, rfl⟩ := List.mem_map.1 h
  omega
theorem nums_at {l : List Nat} {i : Nat} (h : i < l.length) : (ints l)[i]'(by rw [ints_length]; exact h) = (l[i] : Int) := by simp [ints]
theorem nums_get {l : List Nat} {i : Nat} : (ints l)[i]? = l[i]?.map fun (n : Nat) => (n : Int) := by simp [ints]
/-- what an end names, as numbers -/
theorem ints_succ {l : List Bx} (h : Low l) {i : Nat} (hi : i < l.length) : ints (succ l i) = toE (endAt l i) := by
  unfold succ ints
  rw [if_pos hi, List.map_map]
  refine (List.map_congr_left (fun x hx => ?_)).trans (List.map_id _)
  have := h i hi x hx
  show ((x.toNat : Nat) : Int) = x
  omega
theorem toE_len (x : Ex) : (toE x).length ≤ 2 := by
  unfold toE
  repeat' split
  all_goals simp
theorem succ_len (l : List Bx) (i : Nat) : (succ l i).length ≤ 2 := by
  unfold succ
  split
  · rw [List.length_map]; exact toE_len _
  · simp

/-- the function of a program -/
def blsP (p : Px) (f : Int) : List Bx := (p.funcs[f.toNat]?.getD default).blocks
theorem fn_blocks {p : Px} {f : Int} {k : Nat} {x : Fx} (h : Has1 p f k x) : blsP p f = x.blocks := by
  unfold blsP
  rw [h.eq, Int.toNat_natCast, h.at_]
  rfl
/-- the error of a program, a function and a block -/
def askB (p : Px) (f b : Int) : Int := if findP p f ≠ 0 then findP p f else if 0 ≤ b ∧ b < (blsP p f).length then 0 else 2
theorem ask_find {p : Px} {f b : Int} (h : findP p f ≠ 0) : askB p f b = findP p f := by unfold askB; rw [if_pos h]
theorem ask_zero {p : Px} {f b : Int} (h : askB p f b = 0) : findP p f = 0 ∧ 0 ≤ b ∧ b < (blsP p f).length := by
  unfold askB at h
  split at h
  · rename_i hh; exact absurd h hh
  · rename_i hh
    split at h
    · rename_i h2; exact ⟨by omega, h2⟩
    · cases h
theorem ask_yes {p : Px} {f b : Int} (h : findP p f = 0) (h0 : 0 ≤ b) (h1 : b < (blsP p f).length) : askB p f b = 0 := by
  unfold askB; rw [if_neg (fun e => e h), if_pos ⟨h0, h1⟩]
theorem ask_no {p : Px} {f b : Int} (h : findP p f = 0) (hb : ¬ (0 ≤ b ∧ b < (blsP p f).length)) : askB p f b = 2 := by
  unfold askB; rw [if_neg (fun e => e h), if_neg hb]
/-- of a program that may be, block 0 is there -/
theorem ask_first {p : Px} {f : Int} : askB p f 0 = findP p f := by
  by_cases h : findP p f = 0
  · obtain ⟨k, x, h1⟩ := has1 h
    rw [h]
    refine ask_yes h (by decide) ?_
    rw [fn_blocks h1]
    have := h1.blocks1
    omega
  · exact ask_find h
theorem low_fn {p : Px} {f : Int} (ho : POk p) (h : findP p f = 0) : Low (blsP p f) ∧ 0 < (blsP p f).length ∧ (blsP p f).length ≤ 16 := by
  obtain ⟨k, x, h1⟩ := has1 h
  rw [fn_blocks h1]
  refine low_of (find_zero h).1 ho ?_
  have := h1.at_
  exact List.mem_of_getElem? this

/-! the answers -/
def nextA (p : Px) (f b : Int) : List Int := if askB p f b = 0 then toE (endAt (blsP p f) b.toNat) else []
def predsA (p : Px) (f b : Int) : List Int := if askB p f b = 0 then ints (aheadL (blsP p f) b.toNat) else []
def reachA (p : Px) (f : Int) : List Int := if findP p f = 0 then ints (reachedL (blsP p f)) else []
def orderA (p : Px) (f : Int) : List Int := if findP p f = 0 then ints (orderedL (blsP p f)) else []
def roundA (p : Px) (f b : Int) : Bool := if askB p f b = 0 then roundsL (blsP p f) b.toNat else false
theorem next_succ {p : Px} {f : Int} {b : Nat} (ho : POk p) (h : askB p f b = 0) : nextA p f b = ints (succ (blsP p f) b) := by
  obtain ⟨h1, h2, h3⟩ := ask_zero h
  unfold nextA
  rw [if_pos h, Int.toNat_natCast, ints_succ (low_fn ho h1).1 (by omega)]
end Go.Proofs.YtimnjkdhcnhkoaaDoor.FwQ
namespace Go.Proofs.YtimnjkdhcnhkoaaDoor.FkP
open TyM ShM ShP ShE ShH ShI ShN FwM FwC FwP FwQ

/-- some blocks are gone through, one by one -/
def each (t : Nat → List Nat) (f : Nat) (cs : List Nat) (s : List Nat × List Nat) : List Nat × List Nat := cs.foldl (fun s c => thr t f c s) s
theorem each_nil (t : Nat → List Nat) (f : Nat) (s : List Nat × List Nat) : each t f [] s = s := rfl
theorem each_snoc (t : Nat → List Nat) (f : Nat) (cs : List Nat) (c : Nat) (s : List Nat × List Nat) : each t f (cs ++ [c]) s = thr t f c (each t f cs s) := by
  unfold each
  rw [List.foldl_append]
  rfl
theorem each_take {t : Nat → List Nat} {f k : Nat} {cs : List Nat} {s : List Nat × List Nat} (h : k < cs.length) : each t f (cs.take (k + 1)) s = thr t f cs[k] (each t f (cs.take k) s) := by
  rw [List.take_succ_eq_append_getElem h, each_snoc]
theorem each_res {t : Nat → List Nat} {n f : Nat} (ht : ∀ i, i < n → ∀ j ∈ t i, j < n) : ∀ (cs : List Nat) (s : List Nat × List Nat), Inv n s → (∀ c ∈ cs, c < n) → n + 1 ≤ f + s.1.length → Res t n cs s (each t f cs s)
  | [], s, hi, _, _ => Res.nil hi
  | c :: cs, s, hi, hc, hf => by
    have h1 := thr_res ht f c s hi (hc c (by simp)) hf
    exact h1.cons (each_res ht cs _ h1.inv (fun d hd => hc d (by simp [hd])) (by have := h1.len; omega))
theorem thr_old {t : Nat → List Nat} {f b : Nat} {s : List Nat × List Nat} (h : b ∈ s.1) : thr t f b s = s := by
  cases f with
  | zero => rfl
  | succ f => unfold thr; rw [if_pos h]
theorem thr_new {t : Nat → List Nat} {f b : Nat} {s : List Nat × List Nat} (h : b ∉ s.1) : thr t (f + 1) b s = ((each t f (t b) (s.1 ++ [b], s.2)).1, (each t f (t b) (s.1 ++ [b], s.2)).2 ++ [b]) := by
  show (if b ∈ s.1 then s else _) = _
  rw [if_neg h]
  rfl
theorem inv_begin {n b : Nat} {s : List Nat × List Nat} (hi : Inv n s) (hb : b < n) (hm : b ∉ s.1) : Inv n (s.1 ++ [b], s.2) := by
  refine ⟨?_, fun v hv => ?_, fun v hv => by simp [hi.sub v hv], hi.nd2⟩
  · show (s.1 ++ [b]).Nodup
    rw [List.nodup_append]
    refine ⟨hi.nd, by simp, fun v hv w hw e => hm ?_⟩
    rw [List.mem_singleton.1 hw] at e
    exact e ▸ hv
  · rcases List.mem_append.1 hv with hv | hv
    · exact hi.lt v hv
    · rw [List.mem_singleton.1 hv]; exact hb
theorem inv_none (n : Nat) : Inv n ([], []) := ⟨by simp, by simp, by simp, by simp⟩
theorem inv_len {n : Nat} {s : List Nat × List Nat} (hi : Inv n s) : s.1.length ≤ n ∧ s.2.length ≤ n := ⟨nodup_len n hi.nd hi.lt, nodup_len n hi.nd2 fun v hv => hi.lt v (hi.sub v hv)⟩

/-- the order behind, from some on -/
def behindL (l : List Bx) (from_ : List Nat) : List Nat := (each (succ l) (l.length + 1) from_ ([], [])).2
theorem behind_order (l : List Bx) : (behindL l [0]).reverse = orderedL l := rfl
theorem behind_all {l : List Bx} (h : Low l) {cs : List Nat} (hc : ∀ c ∈ cs, c < l.length) : Res (succ l) l.length cs ([], []) (each (succ l) (l.length + 1) cs ([], [])) :=
  each_res (succ_lt h) cs _ (inv_none _) hc (by simp)
theorem behind_nodup {l : List Bx} (h : Low l) {cs : List Nat} (hc : ∀ c ∈ cs, c < l.length) : (behindL l cs).Nodup := (behind_all h hc).inv.nd2
theorem behind_mem {l : List Bx} (h : Low l) {cs : List Nat} (hc : ∀ c ∈ cs, c < l.length) (v : Nat) : v ∈ behindL l cs ↔ ∃ c ∈ cs, FwM.Comes (succ l) c v := by
  have hr := behind_all h hc
  have hin : ∀ u, u ∈ (each (succ l) (l.length + 1) cs ([], [])).1 → u ∈ (each (succ l) (l.length + 1) cs ([], [])).2 := fun u hu => by
    refine Classical.byContradiction fun hh => ?_
    have := (hr.gray u).1 ⟨hu, hh⟩
    exact absurd this.1 (by simp)
  unfold behindL
  constructor
  · intro hv
    rcases hr.new v (hr.inv.sub v hv) with h | h
    · cases h
    · exact h
  · rintro ⟨c, hcm, h⟩
    induction h with
    | here => exact hin c (hr.all c hcm)
    | step _ hd ih =>
      rcases hr.closed _ ih with h | h
      · cases h
      · exact hin _ (h _ hd)
theorem behind_rounds {l : List Bx} (h : Low l) {b : Nat} (hb : b < l.length) : (behindL l (succ l b)).contains b = roundsL l b := by
  rw [Bool.eq_iff_iff, List.contains_iff_mem, behind_mem h (succ_lt h b hb), rounds_iff h hb]
theorem behind_len {l : List Bx} (h : Low l) {cs : List Nat} (hc : ∀ c ∈ cs, c < l.length) : (behindL l cs).length ≤ l.length := (inv_len (behind_all h hc).inv).2

/-! what is rising is told by its members -/
theorem up_eq : ∀ {a b : List Int}, a.Pairwise (· < ·) → b.Pairwise (· < ·) → (∀ v, v ∈ a ↔ v ∈ b) → a = b
  | [], b, _, _, h => by
    cases b with
    | nil => rfl
    | cons x b => exact absurd ((h x).2 (by simp)) (by simp)
  | x :: a, [], _, _, h => absurd ((h x).1 (by simp)) (by simp)
  | x :: a, y :: b, ha, hb, h => by
    obtain ⟨ha1, ha2⟩ := List.pairwise_cons.1 ha
    obtain ⟨hb1, hb2⟩ := List.pairwise_cons.1 hb
    have e : x = y := by
      rcases List.mem_cons.1 ((h x).1 (by simp)) with e | hx
      · exact e
      · rcases List.mem_cons.1 ((h y).2 (by simp)) with e | hy
        · exact e.symm
        · have := hb1 x hx
          have := ha1 y hy
          omega
    subst e
    refine congrArg (x :: ·) (up_eq ha2 hb2 fun v => ?_)
    constructor
    · intro hv
      rcases List.mem_cons.1 ((h v).1 (by simp [hv])) with e | hv'
      · have := ha1 v hv; omega
      · exact hv'
    · intro hv
      rcases List.mem_cons.1 ((h v).2 (by simp [hv])) with e | hv'
      · have := hb1 v hv; omega
      · exact hv'
theorem sorted_up {a : List Int} (h : a.Nodup) : (a.mergeSort fun x y => decide (x ≤ y)).Pairwise (· < ·) := by
  have h1 := List.pairwise_mergeSort (le := fun x y : Int => decide (x ≤ y)) (fun a b c h1 h2 => by simp only [decide_eq_true_eq] at *; omega) (fun a b => by simp only [Bool.or_eq_true, decide_eq_true_eq]; omega) a
  have h2 : (a.mergeSort fun x y => decide (x ≤ y)).Nodup := (List.mergeSort_perm a _).symm.nodup h
  refine (h1.and h2).imp fun ⟨h3, h4⟩ => ?_
  simp only [decide_eq_true_eq] at h3
  omega
theorem ints_nodup {l : List Nat} (h : l.Nodup) : (ints l).Nodup := by
  unfold ints List.Nodup
  rw [List.pairwise_map]
  exact h.imp fun h e => h (by omega)
theorem ints_up {l : List Nat} (h : l.Pairwise (· < ·)) : (ints l).Pairwise (· < ·) := by
  unfold ints
  rw [List.pairwise_map]
  exact h.imp fun h => by omega
theorem ints_mem_iff {l : List Nat} {v : Int} : v ∈ ints l ↔ ∃ n ∈ l, (n : Int) = v := by
  unfold ints
  exact List.mem_map
theorem behind_reach {l : List Bx} (h : Low l) (h0 : 0 < l.length) : ((ints (behindL l [0])).mergeSort fun x y => decide (x ≤ y)) = ints (reachedL l) := by
  have hc : ∀ c ∈ [0], c < l.length := fun c hc => by rw [List.mem_singleton.1 hc]; exact h0
  refine up_eq (sorted_up (ints_nodup (behind_nodup h hc))) (ints_up (reached_up l)) fun v => ?_
  rw [(List.mergeSort_perm _ _).mem_iff, ints_mem_iff, ints_mem_iff]
  constructor
  · rintro ⟨n, hn, rfl⟩
    obtain ⟨c, hcm, hh⟩ := (behind_mem h hc n).1 hn
    rw [List.mem_singleton.1 hcm] at hh
    exact ⟨n, (reached_mem h h0 n).2 hh, rfl⟩
  · rintro ⟨n, hn, rfl⟩
    exact ⟨n, (behind_mem h hc n).2 ⟨0, by simp, (reached_mem h h0 n).1 hn⟩, rfl⟩
end Go.Proofs.YtimnjkdhcnhkoaaDoor.FkP
namespace Go.Proofs.YtimnjkdhcnhkoaaDoor.FkS
open Go.RowKit Go.Lib Go.Maps SetP IntO TyM TyP TyB ShM ShP Aft Fresh FwM FwC FwP FwQ FwR FwO FkP

theorem law_int : Keyed Tryd.prog 3 := int_keyed Tryd.underlying3
theorem zero_unit (w : World) : (zeroValue 96).run Tryd.prog w = .ok (.agg #[]) w := by kernel_rfl
theorem key_int {n : Nat} (h : n ≤ 1000) : keyOf Tryd.prog 3 (.int .i64 (n : Int)) = some (.int .i64 (n : Int)) := by
  refine keyOf_int_mk Tryd.underlying3 ?_
  exact WalkArith.wf_i64 (by omega)
theorem key_lit (n : Int) : WideAt.IsKeyLit (Lit.int .i64 n) := trivial

/-- a set of numbers, as a map -/
def MapAt (w : World) (bm : Nat) (l : List Nat) : Prop := ∃ D : DataW Unit, w.ownsMap Tryd.prog 3 unitElem bm l.length D ∧ ∀ n : Nat, Maps.has D (.int .i64 (n : Int)) = decide (n ∈ l)
theorem MapAt.lt {w : World} {bm : Nat} {l : List Nat} (h : MapAt w bm l) : bm < w.heap.size := by obtain ⟨D, h1, _⟩ := h; exact h1.lt
theorem mapAt_made (w : World) : MapAt (w.alloc (.map #[] 0)) w.heap.size [] := ⟨.map [], World.ownsMap_made _ _ _ _, fun n => by simp [Maps.has]⟩
theorem MapAt.kept {w w' : World} {bm : Nat} {l : List Nat} (h : MapAt w bm l) (hb : w'.heap[bm]? = w.heap[bm]?) : MapAt w' bm l := by
  obtain ⟨D, ⟨es, clock, h1, r⟩, h2⟩ := h
  exact ⟨D, ⟨es, clock, hb.trans h1, r⟩, h2⟩
theorem has_put {D : DataW Unit} (hD : IsMap D) {l : List Nat} (h : ∀ n : Nat, Maps.has D (.int .i64 (n : Int)) = decide (n ∈ l)) (b : Nat) (d : DataW Unit) : ∀ n : Nat, Maps.has (D.put (.int .i64 (b : Int)) d) (.int .i64 (n : Int)) = decide (n ∈ l ++ [b]) := by
  intro n
  by_cases e : n = b
  · subst e
    rw [has_put_same hD (key_lit _)]
    simp
  · have hne : (Lit.int .i64 (n : Int)) ≠ Lit.int .i64 (b : Int) := fun h => by
      injection h with _ h
      omega
    rw [has_put_other hne, h n]
    simp [e]

/-- the block of a row is one of numbers -/
theorem row_typed {w : World} {B sz n g : Nat} {e : TypeId} {v : Value} {xs : List Value} (h : w.ownsRow B e sz v n xs) (hv : v.ownBlock = some g) : ∃ cs, w.heap[g]? = some (.cells cs e (0, 0)) := by
  rcases h.2 with ⟨rfl, _⟩ | ⟨g', cap, cur, rfl, hb, hg, _⟩
  · cases hv
  · cases hv; exact ⟨cur, hg⟩

/-- what a walk keeps -/
structure St (W0 : World) (vb : Value) (p bm : Nat) (vo : Value) (s : List Nat × List Nat) (w : World) : Prop where
  blk : w.heap[p]? = some (.cells #[vb, .map (some bm), vo] 80 (0, 0))
  map : MapAt w bm s.1
  row : w.ownsRow W0.heap.size 3 1 vo s.2.length (intVals (ints s.2))
  bel : Below W0.heap.size W0 w
  hp : W0.heap.size ≤ p
  hm : W0.heap.size ≤ bm
section
variable {W0 : World} {vb : Value} {p bm : Nat} {vo : Value} {s : List Nat × List Nat} {w : World}
theorem St.lt (h : St W0 vb p bm vo s w) : p < w.heap.size := (Array.getElem?_eq_some_iff.1 h.blk).1
theorem St.ne (h : St W0 vb p bm vo s w) : bm ≠ p := by
  intro e
  obtain ⟨D, ⟨es, clock, h1, _⟩, _⟩ := h.map
  have h2 := h.blk
  rw [e] at h1
  rw [h1] at h2
  cases h2
theorem St.row_p (h : St W0 vb p bm vo s w) : vo.ownBlock ≠ some p := by
  intro e
  obtain ⟨cs, h1⟩ := row_typed h.row e
  rw [h.blk] at h1
  cases h1
theorem St.row_m (h : St W0 vb p bm vo s w) : vo.ownBlock ≠ some bm := by
  intro e
  obtain ⟨cs, h1⟩ := row_typed h.row e
  obtain ⟨D, ⟨es, clock, h2, _⟩, _⟩ := h.map
  rw [h1] at h2
  cases h2
/-- past what comes behind -/
theorem St.go {w' : World} (h : St W0 vb p bm vo s w) (hb : Below w.heap.size w w') : St W0 vb p bm vo s w' :=
  ⟨(hb.block p h.lt).trans h.blk, h.map.kept (hb.block bm h.map.lt), ownsRow_below h.row hb, h.bel.trans (hb.mono h.bel.size), h.hp, h.hm⟩
theorem St.cell (h : St W0 vb p bm vo s w) : w.cell? ⟨p, 0, none⟩ = some vb ∧ w.cell? ⟨p, 1, none⟩ = some (.map (some bm)) ∧ w.cell? ⟨p, 2, none⟩ = some vo ∧ ∀ i, w.frozen? ⟨p, i, none⟩ = false := by
  refine ⟨?_, ?_, ?_, fun i => ?_⟩
  · unfold World.cell?; rw [h.blk]; simp
  · unfold World.cell?; rw [h.blk]; simp
  · unfold World.cell?; rw [h.blk]; simp
  · unfold World.frozen?; rw [h.blk]; simp
/-- all old blocks but a walk's own three -/
def Keeps3 (p bm : Nat) (vo : Value) (w w' : World) : Prop := w.heap.size ≤ w'.heap.size ∧ ∀ j, j < w.heap.size → j ≠ p → j ≠ bm → vo.ownBlock ≠ some j → w'.heap[j]? = w.heap[j]?
theorem Keeps3.refl (p bm : Nat) (vo : Value) (w : World) : Keeps3 p bm vo w w := ⟨Nat.le_refl _, fun _ _ _ _ _ => rfl⟩
theorem Keeps3.below {w' : World} (h : Below w.heap.size w w') : Keeps3 p bm vo w w' := ⟨h.size, fun j hj _ _ _ => h.block j hj⟩
theorem Keeps3.trans {vo1 : Value} {w1 w2 : World} (h : Keeps3 p bm vo w w1) (hr : NewRow w vo vo1) (k : Keeps3 p bm vo1 w1 w2) : Keeps3 p bm vo w w2 := by
  refine ⟨Nat.le_trans h.1 k.1, fun j hj hp hm hv => ?_⟩
  rw [k.2 j (Nat.lt_of_lt_of_le hj h.1) hp hm ?_, h.2 j hj hp hm hv]
  rcases hr with hr | ⟨g, hr, hg⟩
  · rw [hr]; exact hv
  · rw [hr]; intro e; cases e; omega
/-- a list apart from a walk's own three -/
def Away3 (p bm : Nat) (vo : Value) (w : World) (v : Value) : Prop := ∀ g off n c, v = .slice (some ⟨g, off, none⟩) n c → 0 < n → g < w.heap.size ∧ g ≠ p ∧ g ≠ bm ∧ vo.ownBlock ≠ some g
theorem Away3.keep {vo1 v : Value} {w1 : World} (h : Away3 p bm vo w v) (hk : Keeps3 p bm vo w w1) (hr : NewRow w vo vo1) : Away3 p bm vo1 w1 v := by
  intro g off n c e hn
  obtain ⟨h1, h2, h3, h4⟩ := h g off n c e hn
  refine ⟨Nat.lt_of_lt_of_le h1 hk.1, h2, h3, ?_⟩
  rcases hr with hr | ⟨g', hr, hg'⟩
  · rw [hr]; exact h4
  · rw [hr]; intro e; cases e; omega
theorem Away3.ints {v : Value} {w1 : World} {l : List Int} (h : Away3 p bm vo w v) (hk : Keeps3 p bm vo w w1) (hi : IntsAt w v l) : IntsAt w1 v l := by
  obtain ⟨ao, cap, rfl, hl, hm, hz⟩ := hi
  refine ⟨ao, cap, rfl, hl, fun h0 => ?_, hz⟩
  obtain ⟨b, off, rfl, hlt, hc⟩ := hm h0
  obtain ⟨h1, h2, h3, h4⟩ := h b off _ _ rfl h0
  refine ⟨b, off, rfl, Nat.lt_of_lt_of_le hlt hk.1, fun i hi => ?_⟩
  have hcell := hc i hi
  unfold World.cell? at hcell ⊢
  rw [hk.2 b hlt h2 h3 h4]
  exact hcell
/-- a list in memory that is newer than the walk's -/
theorem away_new {w1 : World} {v : Value} {l : List Int} (h : St W0 vb p bm vo s w) (hv : NewI w.heap.size w1 v l) : Away3 p bm vo w1 v := by
  intro g off n c e hn
  have h1 := hv.2 g off n c e
  obtain ⟨ao, cap, rfl, _, hm, _⟩ := hv.1
  cases e
  obtain ⟨b, o, hb, hlt, _⟩ := hm hn
  cases hb
  refine ⟨hlt, ?_, ?_, fun e => ?_⟩
  · have := h.lt; omega
  · have := h.map.lt; omega
  · have := (h.row.lt g e).2; omega
/-- one more is begun -/
theorem St.begin {D : DataW Unit} {w1 : World} {b n : Nat} {d : DataW Unit} (h : St W0 vb p bm vo s w) (hD : w.ownsMap Tryd.prog 3 unitElem bm n D) (hh : ∀ n : Nat, Maps.has D (.int .i64 (n : Int)) = decide (n ∈ s.1)) (ho : w1.ownsMap Tryd.prog 3 unitElem bm (s.1.length + 1) (D.put (.int .i64 (b : Int)) d)) (hg : w.grownBy w1 (some bm)) :
    St W0 vb p bm vo (s.1 ++ [b], s.2) w1 ∧ Keeps3 p bm vo w w1 := by
  have hbp : w1.heap[p]? = w.heap[p]? := hg.block p h.lt (fun e => h.ne (Option.some.inj e).symm)
  refine ⟨⟨hbp.trans h.blk, ⟨_, by simpa using ho, has_put hD.isMap hh b d⟩, h.row.kept hg (.inr h.row_m), h.bel.grown hg h.bel.size (fun k hk => ?_), h.hp, h.hm⟩, hg.size, fun j hj _ hm _ => hg.block j hj (fun e => hm (Option.some.inj e))⟩
  cases hk
  exact h.hm
/-- one more stands behind -/
theorem St.put {w1 : World} {b : Nat} {v' : Value} {tmp : Obj} (h : St W0 vb p bm vo s w) (ho : w1.ownsRow W0.heap.size 3 1 v' (s.2.length + 1) (intVals (ints s.2) ++ intVals [(b : Int)])) (hg : (w.alloc tmp).grownBy w1 vo.ownBlock) (hn : NewRow (w.alloc tmp) vo v') :
    St W0 vb p bm v' (s.1, s.2 ++ [b]) (w1.setCell ⟨p, 2, none⟩ v') ∧ Keeps3 p bm vo w (w1.setCell ⟨p, 2, none⟩ v') ∧ NewRow w vo v' := by
  have hs : w.heap.size + 1 ≤ w1.heap.size := by have := hg.size; simpa using this
  have old : ∀ j, j < w.heap.size → vo.ownBlock ≠ some j → w1.heap[j]? = w.heap[j]? := fun j hj hv => (hg.block j (by simp; omega) (fun e => hv e.symm)).trans (Below.heap_alloc _ _ _ hj)
  have hbp : w1.heap[p]? = some (.cells #[vb, .map (some bm), vo] 80 (0, 0)) := (old p h.lt h.row_p).trans h.blk
  have hvp : v'.ownBlock ≠ some p := by
    intro e
    obtain ⟨cs, h1⟩ := row_typed ho e
    rw [hbp] at h1
    cases h1
  refine ⟨⟨?_, ?_, ?_, ?_, h.hp, h.hm⟩, ⟨by rw [TyD.size_set]; omega, fun j hj hp _ hv => ?_⟩, NewRow.alloc hn⟩
  · have := TyD.set_heap (i := 2) v' hbp
    simpa using this
  · refine h.map.kept ?_
    rw [Below.heap_setCell w1 ⟨p, 2, none⟩ v' bm h.ne]
    exact old bm h.map.lt h.row_m
  · have h1 : w1.ownsRow W0.heap.size 3 1 v' (s.2 ++ [b]).length (intVals (ints (s.2 ++ [b]))) := by
      rw [ints_append, intVals_append, List.length_append]
      exact ho
    refine ⟨h1.1, ?_⟩
    rcases h1.2 with h2 | ⟨g, cap, cur, rfl, hb, hh, r⟩
    · exact .inl h2
    · exact .inr ⟨g, cap, cur, rfl, hb, (Below.heap_setCell w1 ⟨p, 2, none⟩ _ g (fun e => hvp (by rw [e]; rfl))).trans hh, r⟩
  · have hb1 : Below W0.heap.size W0 w1 := (h.bel.alloc h.bel.size tmp).grown hg (by simp only [World.size_alloc]; have := h.bel.size; omega) (fun k hk => (h.row.lt k hk).1)
    exact hb1.setCell (p := ⟨p, 2, none⟩) h.hp v'
  · rw [Below.heap_setCell w1 ⟨p, 2, none⟩ v' j hp, old j hj hv]
end
theorem newI_base {B B2 : Nat} {w : World} {v : Value} {l : List Int} (h : NewI B w v l) (hb : B2 ≤ B) : NewI B2 w v l := ⟨h.1, fun g off n c e => Nat.le_trans hb (h.2 g off n c e)⟩
/-- a walk's method has been run -/
def WkR (W0 : World) (vb : Value) (p bm : Nat) (s : List Nat × List Nat) (vo : Value) (w : World) (e : Ending) (w' : World) : Prop := e = .returned (.tuple #[]) ∧ ∃ vo', St W0 vb p bm vo' s w' ∧ Keeps3 p bm vo w w' ∧ NewRow w vo vo'
end Go.Proofs.YtimnjkdhcnhkoaaDoor.FkS
namespace Go.Proofs.YtimnjkdhcnhkoaaDoor.FvA
open Go.RowKit Go.Lib SetP IntO TyM TyP TyB TyC ShM ShP ShA ShB ShC ShE ShH ShI ShJ FwP FwQ FwR

def NotIn (n : Int) (l : List Int) (k : Nat) : Prop := n ∉ l.take k
theorem notIn_zero (n : Int) (l : List Int) : NotIn n l 0 := by simp [NotIn]
theorem notIn_succ {n : Int} {l : List Int} {k : Nat} (h : NotIn n l k) (hk : k < l.length) (hne : l[k] ≠ n) : NotIn n l (k + 1) := by
  unfold NotIn at *
  rw [List.take_succ_eq_append_getElem hk]
  simp only [List.mem_append, List.mem_singleton, not_or]
  exact ⟨h, fun e => hne e.symm⟩
theorem notIn_all {n : Int} {l : List Int} (h : NotIn n l l.length) : n ∉ l := by
  unfold NotIn at h
  rwa [List.take_length] at h
theorem in_of {n : Int} {l : List Int} {k : Nat} (hk : k < l.length) (he : l[k] = n) : n ∈ l := he ▸ List.getElem_mem hk

set_option maxHeartbeats 1000000 in
theorem in_calls (v : Value) (l : List Int) (n : Int) (w : World) (h : IntsAt w v l) :
    Calls Tryd.prog 47 #[v, .int .i64 n] w (BoolR (decide (n ∈ l)) w) := by
  have HA := hid h
  obtain ⟨ao, ac, rfl, hla⟩ := ints_slice h
  clear h
  go_enter Tryd.func47, Tryd.ntmps47
  go_wp2
  go_loop [5] (fun i => ∃ k : Nat, k ≤ l.length ∧ i = .int .i64 k ∧ NotIn n l k) (fun i => l.length - (intOf i).toNat)
  case atStart => exact ⟨0, Nat.zero_le _, rfl, notIn_zero n l⟩
  case round =>
    obtain ⟨k, hk, rfl, hni⟩ := hrel
    have HNI := hid hni
    clear hni
    by_cases hlt : k < l.length
    · obtain ⟨ab, aoff, rfl, _, ca⟩ := TyP.ints_at HA.out k hlt
      have HS := hid (notIn_succ HNI.out hlt)
      have HI := hid (in_of (n := n) hlt)
      clear HNI
      generalize l[k] = x at *
      by_cases hx : x = n
      · have hd : (x == n) = true := by simpa using hx
        have HM := hid (HI.out hx)
        clear HS HI hx
        go_wp2
        go_ret
        exact ⟨by rw [decide_eq_true HM.out]; rfl, Below.refl _ _⟩
      · have hd : (x == n) = false := by simpa using hx
        have HM := hid (HS.out hx)
        clear HS HI hx
        go_wp2
        go_round
        case rel => exact ⟨k + 1, by omega, by go_num, HM.out⟩
        case measure => simp [intOf]; omega
    · obtain rfl : k = l.length := by omega
      have HM := hid (notIn_all HNI.out)
      clear HNI
      generalize l.length = m at *
      go_wp2
      go_ret
      exact ⟨by rw [decide_eq_false HM.out]; rfl, Below.refl _ _⟩

set_option maxRecDepth 100000 in
set_option maxHeartbeats 4000000 in
theorem to_calls (x : Ex) (w : World) :
    Calls Tryd.prog 34 #[exV x] w (OwnI (toE x) w) := by
  obtain ⟨kd, a, tt, els⟩ := x
  have HD : Hid (toE ⟨kd, a, tt, els⟩ = if kd = 1 ∨ (kd = 2 ∧ tt = els) then [tt] else if kd = 2 then [tt, els] else []) := rfl
  generalize toE ⟨kd, a, tt, els⟩ = ans at *
  have HI1 := hid (owns_lit_at w (w.alloc (.cells #[.int .u8 kd, .int .i64 a, .int .i64 tt, .int .i64 els] 28)) [tt] (w.heap.size + 1) 1 #[.int .i64 tt] (by simp) (by simp) rfl rfl (by simp))
  have HI2 := hid (owns_lit_at w (w.alloc (.cells #[.int .u8 kd, .int .i64 a, .int .i64 tt, .int .i64 els] 28)) [tt, els] (w.heap.size + 1) 2 #[.int .i64 tt, .int .i64 els] (by simp) (by simp) rfl rfl (by simp))
  have HI0 : Hid ((w.alloc (.cells #[.int .u8 kd, .int .i64 a, .int .i64 tt, .int .i64 els] 28)).ownsRow w.heap.size 3 1 (.slice none 0 0) 0 (intVals [])) := World.ownsRow_nil _ _ _ _
  have HB0 := hid (alloc_below w (.cells #[.int .u8 kd, .int .i64 a, .int .i64 tt, .int .i64 els] 28))
  have HB := hid (fun o => (alloc_below w (.cells #[.int .u8 kd, .int .i64 a, .int .i64 tt, .int .i64 els] 28)).alloc (by simp) o)
  by_cases h1 : kd = 1
  · rw [if_pos (.inl h1)] at HD
    have e1 : (kd == 1) = true := by simpa using h1
    clear h1
    go_enter Tryd.func34, Tryd.ntmps34
    go_wp2
    go_ret
    exact ⟨_, _, rfl, by rw [HD.out]; exact HI1.out, HB.out _⟩
  have e1 : (kd == 1) = false := by simpa using h1
  by_cases h2 : kd = 2
  · have e2 : (kd == 2) = true := by simpa using h2
    by_cases h3 : tt = els
    · rw [if_pos (.inr ⟨h2, h3⟩)] at HD
      have e3 : (tt == els) = true := by simpa using h3
      clear h1 h2 h3
      go_enter Tryd.func34, Tryd.ntmps34
      go_wp2
      go_ret
      exact ⟨_, _, rfl, by rw [HD.out]; exact HI1.out, HB.out _⟩
    · rw [if_neg (fun h => h.elim h1 fun h => h3 h.2), if_pos h2] at HD
      have e3 : (tt == els) = false := by simpa using h3
      clear h1 h2 h3
      go_enter Tryd.func34, Tryd.ntmps34
      go_wp2
      go_ret
      exact ⟨_, _, rfl, by rw [HD.out]; exact HI2.out, HB.out _⟩
  · rw [if_neg (fun h => h.elim h1 fun h => h2 h.1), if_neg h2] at HD
    have e2 : (kd == 2) = false := by simpa using h2
    clear h1 h2
    go_enter Tryd.func34, Tryd.ntmps34
    go_wp2
    go_ret
    exact ⟨_, _, rfl, by rw [HD.out]; exact HI0.out, HB0.out⟩
end Go.Proofs.YtimnjkdhcnhkoaaDoor.FvA
