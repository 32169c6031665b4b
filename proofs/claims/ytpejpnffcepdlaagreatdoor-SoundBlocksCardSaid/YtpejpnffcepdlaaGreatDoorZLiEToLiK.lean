/- A set of numbers, as a map[int]struct{}: its keys; what is put there, deleted, cleared. What live.find keeps: the blocks' row, behind a pointer. Walk over live.find: where it answers an error. Walk over live.find: the blocks. What live.find made, in every world in which only the set of blocks to be looked at is written to. Walk over (*live.search).look. -/
import Derived.Test.YtpejpnffcepdlaaGreatDoorZFwRToTyRT
import Derived.Test.YtpejpnffcepdlaaGreatDoorZShIToIntG
import Derived.Maps.OwnSet
import Derived.Lib.SlKeysI
import Derived.Test.YtpejpnffcepdlaaGreatDoorZLvQToSvK
import Derived.Test.YtpejpnffcepdlaaGreatDoorZBlkGToFeP
import Derived.Test.YtpejpnffcepdlaaGreatDoorZRgZToRgY
namespace Go.Proofs.YtpejpnffcepdlaaGreatDoor.LiE
open Go.RowKit Go.Lib Go.Maps Go.ChangeMaps SetP IntO TyM TyP TyB ShM ShP FwQ FwR FkP

theorem law_int : Keyed Tryz.prog 3 := int_keyed Tryz.underlying3
theorem zero_unit (w : World) : (zeroValue 215).run Tryz.prog w = .ok (.agg #[]) w := by kernel_rfl
theorem key_int {n : Nat} (h : n ≤ 1000) : keyOf Tryz.prog 3 (.int .i64 (n : Int)) = some (.int .i64 (n : Int)) := by
 refine keyOf_int_mk Tryz.underlying3 ?_
 exact WalkArith.wf_i64 (by omega)
theorem key_lit (n : Int) : WideAt.IsKeyLit (Lit.int .i64 n) := trivial

/-- a set of numbers, as a map -/
def MapS (w : World) (bm : Nat) (l : List Nat) : Prop := l.Nodup ∧ ∃ D : DataW Unit, w.ownsMap Tryz.prog 3 unitElem bm (Maps.size D) D ∧ ∀ x : Int, Maps.has D (.int .i64 x) = decide (x ∈ ints l)
section
variable {w w' : World} {bm : Nat} {l : List Nat}
theorem MapS.lt (h : MapS w bm l) : bm < w.heap.size := by obtain ⟨_, D, h1, _⟩ := h; exact h1.lt
theorem mapS_of (h : w.heap[bm]? = some (.map #[] 0)) : MapS w bm [] :=
 ⟨by simp, .map [], ⟨#[], 0, h, ⟨by simp, MapKept.stamped_empty 0, by simp⟩, Nat.le_refl _, rfl⟩, fun x => by simp [Maps.has, ints]⟩
theorem MapS.kept (h : MapS w bm l) (hb : w'.heap[bm]? = w.heap[bm]?) : MapS w' bm l := by
 obtain ⟨h0, D, ⟨es, clock, h1, r⟩, h2⟩ := h
 exact ⟨h0, D, ⟨es, clock, hb.trans h1, r⟩, h2⟩
theorem tight {P : Program} {k : TypeId} {R : Value → Option (DataW Unit × List MemPlace)} {b n : Nat} {D : DataW Unit} (h : w.ownsMap P k R b n D) : w.ownsMap P k R b (Maps.size D) D := by
 obtain ⟨es, clock, hb, F, hs, rfl⟩ := h
 exact ⟨es, clock, hb, F, by simp [Maps.size, Go.length_sorted], rfl⟩
theorem keys_perm {D : DataW Unit} {n : Nat} (hnd : l.Nodup) (h : w.ownsMap Tryz.prog 3 unitElem bm n D) (hh : ∀ x : Int, Maps.has D (.int .i64 x) = decide (x ∈ ints l)) : (ints l).Perm (intKeys D) := by
 refine CollectedI.perm (left := fun _ => false) ⟨ints_nodup hnd, fun x => ?_⟩ h law_int Tryz.underlying3 (fun _ => rfl)
 rw [hh x]
 simp
theorem size_of {D : DataW Unit} {n : Nat} (hnd : l.Nodup) (h : w.ownsMap Tryz.prog 3 unitElem bm n D) (hh : ∀ x : Int, Maps.has D (.int .i64 x) = decide (x ∈ ints l)) : Maps.size D = l.length := by
 have h1 := (keys_perm hnd h hh).length_eq
 rw [ints_length] at h1
 obtain ⟨es, clock, _, _, _, rfl⟩ := h
 rw [h1]
 simp [Maps.size, intKeys]
/-- one more -/
theorem mapS_put {D : DataW Unit} {n b : Nat} {d : DataW Unit} (hnd : l.Nodup) (hD : Maps.IsMap D) (hh : ∀ x : Int, Maps.has D (.int .i64 x) = decide (x ∈ ints l)) (hb : b ∉ l) (ho : w'.ownsMap Tryz.prog 3 unitElem bm n (D.put (.int .i64 (b : Int)) d)) : MapS w' bm (l ++ [b]) := by
 refine ⟨List.nodup_append.2 ⟨hnd, by simp, fun a ha c hc => by rw [List.mem_singleton.1 hc]; exact fun e => hb (e ▸ ha)⟩, _, tight ho, fun x => ?_⟩
 rw [ints_append]
 by_cases e : x = (b : Int)
 ·subst e
  rw [has_put_same hD (key_lit _)]
  simp [ints]
 ·have hne : (Lit.int .i64 x) ≠ Lit.int .i64 (b : Int) := fun h => by
   injection h with _ h
   exact e h
  rw [has_put_other hne, hh x]
  simp [ints, e]
/-- one less -/
theorem mapS_del {D : DataW Unit} {n b : Nat} (hnd : l.Nodup) (hh : ∀ x : Int, Maps.has D (.int .i64 x) = decide (x ∈ ints l)) (ho : w'.ownsMap Tryz.prog 3 unitElem bm n (D.del (.int .i64 (b : Int)))) : MapS w' bm (l.erase b) := by
 refine ⟨hnd.erase b, _, tight ho, fun x => ?_⟩
 by_cases e : x = (b : Int)
 ·subst e
  rw [has_del_same]
  have : ¬ (b : Int) ∈ ints (l.erase b) := fun h => (hnd.mem_erase_iff.1 (ints_mem.1 h)).1 rfl
  simp [this]
 ·have hne : (Lit.int .i64 x) ≠ Lit.int .i64 (b : Int) := fun h => by
   injection h with _ h
   exact e h
  rw [has_del_other hne, hh x]
  refine decide_eq_decide.2 ?_
  constructor
  ·intro h
   have h0 := ints_nonneg h
   obtain ⟨m, rfl⟩ : ∃ m : Nat, x = m := ⟨x.toNat, by omega⟩
   exact ints_mem.2 (hnd.mem_erase_iff.2 ⟨fun h => e (by rw [h]), ints_mem.1 h⟩)
  ·intro h
   have h0 := ints_nonneg h
   obtain ⟨m, rfl⟩ : ∃ m : Nat, x = m := ⟨x.toNat, by omega⟩
   exact ints_mem.2 (hnd.mem_erase_iff.1 (ints_mem.1 h)).2
end
/-- clear, and delete: what is run -/
theorem run_clear {P : Program} {w : World} {k e t : TypeId} (ht : P.underlying t = some (.map k e)) {R : Value → Option (DataW Unit × List MemPlace)} {b n : Nat} {D : DataW Unit} (hown : w.ownsMap P k R b n D) :
  ∃ w', (∀ ty, (Builtin.clear_ #[t] ty #[.map (some b)]).run P w = .ok (.tuple #[]) w') ∧ w'.ownsMap P k R b 0 (.map []) ∧ w.grownBy w' (some b) := by
 obtain ⟨es, clock, hb, F, hs, hD⟩ := hown
 refine ⟨setBlock w b (.map #[] clock), fun ty => ?_, ⟨#[], clock, heap_setBlock_same hb _, ⟨by simp, MapKept.stamped_empty _, by simp⟩, Nat.le_refl _, rfl⟩, ?_⟩
 ·simp [Builtin.clear_, run_underlying ht, MapKept.run_getObj_map hb, MapKept.run_setObj_map _ hb, Result.andThen, setBlock]
 ·exact ⟨rfl, rfl, rfl, by simp [setBlock], fun i _ hi => heap_setBlock_other hb _ (fun e => hi (by rw [e]))⟩
theorem mapS_clear {w' : World} {bm : Nat} (h : w'.ownsMap Tryz.prog 3 (unitElem (H := Unit)) bm 0 (.map [])) : MapS w' bm [] := ⟨by simp, .map [], h, fun x => by simp [Maps.has, ints]⟩
end Go.Proofs.YtpejpnffcepdlaaGreatDoor.LiE
namespace Go.Proofs.YtpejpnffcepdlaaGreatDoor.LiF
open Go.RowKit Go.Lib SetP IntO TyM TyP TyB ShM ShP ShA RwO Aft Fresh BitOf FwP FwQ FwR IntG LvM LuM LgD BlkG LiM LiA LiE

/-- a block, as find keeps it -/
structure El where
 r : Value
 fr : Nat
 th : Nat
 nx : Value
 ph : Value
def elV (y : El) : List Value := [y.r, .int .i64 (y.fr : Int), .int .i64 (y.th : Int), y.nx, y.ph]
theorem elW : Wide elV 5 := fun _ => rfl
theorem elInfo : (Tryz.prog.info? 100).map (fun i => (i.zero, i.size, i.bytes)) = some (some (.agg #[.slice none 0 0, .int .i64 0, .int .i64 0, .slice none 0 0, .slice none 0 0]), 5, 88) := by kernel_rfl
structure ElOk (B : Nat) (w : World) (par : Nat) (bl : List Bx) (b : Nat) (e : El) : Prop where
 fr : e.fr = frB par bl b
 th : e.th = frB par bl b + (insAt bl b).length
 rd : NewSt B w e.r (ofS (rdB par bl b))
 nx : w.ownsRow B 3 1 e.nx (ints (succ bl b)).length (intVals (ints (succ bl b)))
 ph : NewSt B w e.ph (ofS (phL b bl (succ bl b)))
structure FSt (W0 : World) (pb bm N par : Nat) (bl : List Bx) (vo : Value) (els : List El) (w : World) : Prop where
 blk : w.heap[pb]? = some (.cells #[.int .i64 (N : Int), vo, .map (some bm)] 104 (0, 0))
 map : w.heap[bm]? = some (.map #[] 0)
 row : w.ownsRow W0.heap.size 100 5 vo els.length (rowOf elV els)
 ok : ∀ i e, els[i]? = some e → ElOk W0.heap.size w par bl i e
 bel : Aft W0 w
 hp : W0.heap.size ≤ pb
 hm : W0.heap.size ≤ bm
section
variable {W0 w w' : World} {B pb bm N par b : Nat} {bl : List Bx} {vo : Value} {els : List El} {e : El}
theorem ElOk.go (h : ElOk B w par bl b e) (hb : Below w.heap.size w w') : ElOk B w' par bl b e := ⟨h.fr, h.th, ownsRow_below h.rd hb, ownsRow_below h.nx hb, ownsRow_below h.ph hb⟩
theorem ElOk.other {row : Option Nat} {f : TypeId} (h : ElOk B w par bl b e) (hg : w.grownBy w' row) (hr : ∀ g, row = some g → ∃ cs fr, w.heap[g]? = some (.cells cs f fr)) (h1 : 3 ≠ f) (h2 : 252 ≠ f) : ElOk B w' par bl b e :=
 ⟨h.fr, h.th, owns_other h.rd hg hr h2, owns_other h.nx hg hr h1, owns_other h.ph hg hr h2⟩
theorem ElOk.base {B2 : Nat} (h : ElOk B w par bl b e) (hb : B2 ≤ B) : ElOk B2 w par bl b e := ⟨h.fr, h.th, owns_base h.rd hb, owns_base h.nx hb, owns_base h.ph hb⟩
theorem FSt.go (h : FSt W0 pb bm N par bl vo els w) (hb : Below w.heap.size w w') : FSt W0 pb bm N par bl vo els w' :=
 ⟨(hb.block pb (Array.getElem?_eq_some_iff.1 h.blk).1).trans h.blk, (hb.block bm (Array.getElem?_eq_some_iff.1 h.map).1).trans h.map, ownsRow_below h.row hb, fun i e hi => (h.ok i e hi).go hb, h.bel.go hb, h.hp, h.hm⟩
theorem FSt.cell (h : FSt W0 pb bm N par bl vo els w) : w.cell? ⟨pb, 1, none⟩ = some vo := by unfold World.cell?; rw [h.blk]; simp
theorem FSt.put {tmp : Obj} {w1 : World} {v' : Value} (h : FSt W0 pb bm N par bl vo els w) (he : ElOk W0.heap.size w par bl els.length e) (ho : w1.ownsRow W0.heap.size 100 5 v' (els.length + 1) (rowOf elV els ++ rowOf elV [e])) (hg : (w.alloc tmp).grownBy w1 vo.ownBlock) :
  w1.frozen? ⟨pb, 1, none⟩ = false ∧ w1.cell? ⟨pb, 1, none⟩ = some vo ∧ FSt W0 pb bm N par bl v' (els ++ [e]) (w1.setCell ⟨pb, 1, none⟩ v') := by
 have hb := alloc_below w tmp
 have h1 := h.go hb
 have hr := own_typed h1.row
 have npb : vo.ownBlock ≠ some pb := fun e => by
  obtain ⟨cs, fr, h2⟩ := hr pb e
  rw [h1.blk] at h2
  cases h2
 have nbm : vo.ownBlock ≠ some bm := fun e => by
  obtain ⟨cs, fr, h2⟩ := hr bm e
  rw [h1.map] at h2
  cases h2
 have bpb : w1.heap[pb]? = _ := (hg.block pb (Array.getElem?_eq_some_iff.1 h1.blk).1 (fun e => npb e.symm)).trans h1.blk
 have bbm : w1.heap[bm]? = _ := (hg.block bm (Array.getElem?_eq_some_iff.1 h1.map).1 (fun e => nbm e.symm)).trans h1.map
 have hne : bm ≠ pb := fun e => by rw [e, bpb] at bbm; cases bbm
 have hgs : w1.grownBy (w1.setCell ⟨pb, 1, none⟩ v') (some pb) := ⟨rfl, rfl, rfl, by rw [TyD.size_set]; exact Nat.le_refl _, fun j _ hj => Below.heap_setCell w1 ⟨pb, 1, none⟩ v' j (fun e => hj (by rw [e]))⟩
 have hrs : ∀ g, some pb = some g → ∃ cs fr, w1.heap[g]? = some (.cells cs 104 fr) := fun g e => by cases e; exact ⟨_, _, bpb⟩
 have hold : ∀ i e, ElOk W0.heap.size w par bl i e → ElOk W0.heap.size (w1.setCell ⟨pb, 1, none⟩ v') par bl i e := fun i e h2 =>
  ((h2.go hb).other hg hr (by decide) (by decide)).other hgs hrs (by decide) (by decide)
 refine ⟨by unfold World.frozen?; rw [bpb]; simp, by unfold World.cell?; rw [bpb]; simp, ?_, (Below.heap_setCell w1 ⟨pb, 1, none⟩ v' bm hne).trans bbm, ?_, ?_, ?_, h.hp, h.hm⟩
 ·have := TyD.set_heap (i := 1) v' bpb
  simpa using this
 ·rw [List.length_append, rowOf_append]
  exact owns_other ho hgs hrs (by decide)
 ·intro i e2 hi
  by_cases hlt : i < els.length
  ·rw [List.getElem?_append_left hlt] at hi
   exact hold i e2 (h.ok i e2 hi)
  ·have hie : i = els.length := by
    have := (List.getElem?_eq_some_iff.1 hi).1
    rw [List.length_append, List.length_singleton] at this
    omega
   subst hie
   rw [List.getElem?_append_right (Nat.le_refl _), Nat.sub_self] at hi
   cases hi
   exact hold _ _ he
 ·exact (h1.bel.below.grown hg h1.bel.size (fun k hk => (h1.row.lt k hk).1)).setCell (p := ⟨pb, 1, none⟩) h.hp v'
/-- a block of another type is kept -/
theorem FSt.keeps0 {tmp : Obj} {w1 : World} (h : FSt W0 pb bm N par bl vo els w) (hg : (w.alloc tmp).grownBy w1 vo.ownBlock) {g : Nat} {cs : Array Value} {T : TypeId} {fr : Nat × Nat} (hc : w.heap[g]? = some (.cells cs T fr)) (h1 : T ≠ 100) : w1.heap[g]? = some (.cells cs T fr) := by
 have hb := alloc_below w tmp
 have ha := h.go hb
 have hc1 := (hb.block g (Array.getElem?_eq_some_iff.1 hc).1).trans hc
 have hne : vo.ownBlock ≠ some g := fun e => by
  obtain ⟨cs', fr', h3⟩ := own_typed ha.row g e
  rw [hc1] at h3
  cases h3
  exact h1 rfl
 exact (hg.block g (Array.getElem?_eq_some_iff.1 hc1).1 (fun e => hne e.symm)).trans hc1
theorem FSt.keeps {tmp : Obj} {w1 : World} {v' : Value} (h : FSt W0 pb bm N par bl vo els w) (hg : (w.alloc tmp).grownBy w1 vo.ownBlock) {g : Nat} {cs : Array Value} {T : TypeId} {fr : Nat × Nat} (hc : w.heap[g]? = some (.cells cs T fr)) (h1 : T ≠ 100) (h2 : T ≠ 104) : (w1.setCell ⟨pb, 1, none⟩ v').heap[g]? = some (.cells cs T fr) := by
 have hc2 := h.keeps0 hg hc h1
 have hgp : g ≠ pb := fun e => by
  have h3 := h.blk
  rw [← e, hc] at h3
  cases h3
  exact h2 rfl
 exact (Below.heap_setCell w1 ⟨pb, 1, none⟩ v' g hgp).trans hc2
end
/-- of all blocks -/
def FindY (w : World) (N par : Nat) (bl : List Bx) (e : Ending) (w' : World) : Prop := ∃ (W0 : World) (pb bm : Nat) (vo : Value) (els : List El), e = .returned (.tuple #[.pointer (some ⟨pb, 0, none⟩), .int .i64 0]) ∧ Below w.heap.size w W0 ∧ FSt W0 pb bm N par bl vo els w' ∧ els.length = bl.length
end Go.Proofs.YtpejpnffcepdlaaGreatDoor.LiF
namespace Go.Proofs.YtpejpnffcepdlaaGreatDoor.LiG
open Go.RowKit Go.Lib SetP IntO TyM TyP TyB TyC ShM ShP ShA ShB ShE ShH ShI ShJ ShK ShL RwO Aft Fresh BitOf FwM FwC FwP FwQ FwR FwK FkN IntG FdQ LvM LuM LgD BlkG LiM LiA LiE LiF

theorem at_out {p : Px} {f block pl : Int} (hf : findP p f = 0) (h : ¬ (0 ≤ block ∧ block < (blsP p f).length)) : atE p f block pl = 2 := by
 unfold atE
 rw [ask_no hf h, if_pos (by decide)]
theorem at_in {p : Px} {f pl : Int} {j : Nat} (hf : findP p f = 0) (h : j < (blsP p f).length) : atE p f j pl = if 0 ≤ pl ∧ pl ≤ ((insAt (blsP p f) j).length : Int) then 0 else 2 := by
 unfold atE
 have e : insN (blsP p f) (j : Int) = (insAt (blsP p f) j).length := by unfold insN insAt; rw [Int.toNat_natCast]
 rw [ask_yes hf (by omega) (by omega), if_neg (by decide), e]
 by_cases h : 0 ≤ pl ∧ pl ≤ ((insAt (blsP p f) j).length : Int)
 ·rw [if_neg (by omega), if_pos h]
 ·rw [if_pos (by omega), if_neg h]
theorem at_find {p : Px} {f block pl : Int} (h : findP p f ≠ 0) : atE p f block pl = findP p f := by
 unfold atE
 rw [ask_find h, if_pos h]

set_option maxRecDepth 100000 in
set_option maxHeartbeats 8000000 in
theorem find_no (p : Px) (f block pl : Int) (v : Value) (w : World) (hp : PrAt w v p) (htab : Tab w) (hs : Small p) (hok : POk p) (hne : atE p f block pl ≠ 0) :
  Calls Tryz.prog 47 #[v, .int .i64 f, .int .i64 block, .int .i64 pl] w fun e w' => e = .returned (.tuple #[.pointer none, .int .i64 (atE p f block pl)]) ∧ Below w.heap.size w w' := by
 have hp0 := hp
 obtain ⟨vt, vf, rfl, ht, hf0⟩ := hp
 obtain ⟨W, hW⟩ : ∃ W, W = w.alloc (.cells #[vt, vf] 27) := ⟨_, rfl⟩
 have hbW : Below w.heap.size w W := by rw [hW]; exact alloc_below _ _
 have k1 : W.heap[w.heap.size]? = some (.cells #[vt, vf] 27 (0, 0)) := by rw [hW]; exact alloc_new _ _
 have HRG := hid (regsP_calls p f _ W (hp0.below hbW) (htab.on hbW) hs hok)
 have HFN := hid (fun (k : Nat) (x : Fx) (h1 : Has1 p f k x) => fn_later (hf0.below fnStays hbW) h1)
 obtain ⟨ta, tc, rfl⟩ := ht.slice
 obtain ⟨fa, fc, rfl, _⟩ := hf0.slice
 have l0 := later_cells k1 0 _ rfl; have l1 := later_cells k1 1 _ rfl
 have HBW := hid hbW
 have HW := hid hW
 have h0 := Aft.refl W
 clear ht hf0 hbW hW k1 hp0 hs htab
 by_cases hz : findP p f = 0
 rotate_left
 ·have HE := hid (at_find (block := block) (pl := pl) hz)
  have e0 : (findP p f != 0) = true := by simpa using hz
  rw [HE.out]
  rw [if_neg hz] at HRG
  clear hz hok HFN HE hne
  generalize findP p f = fe at *
  generalize p.types.length = n1 at *
  generalize p.funcs.length = n2 at *
  go_enter Tryz.func47, Tryz.ntmps47
  go_wp2_with fail
  rw [← HW.out]
  refine HRG.out.mono ?_
  rintro e w1 ⟨rfl, hb1⟩
  have h1 := h0.go hb1
  have HE := hid (h1.out HBW.out)
  clear HRG hb1
  go_wp2
  go_ret2
  exact ⟨rfl, HE.out⟩
 have HAO := hid (at_out (block := block) (pl := pl) hz)
 have HAI := hid (fun (j : Nat) (h : j < (blsP p f).length) => at_in (pl := pl) hz h)
 rw [if_pos hz, hz] at HRG
 obtain ⟨hlow, hl0, hl16⟩ := low_fn hok hz
 obtain ⟨k, x, h1⟩ := has1 hz
 obtain ⟨fb, foff, fcap, ao, bc, he, d0, d1, hbl0⟩ := HFN.out k x h1
 cases he
 have hbp := fn_blocks h1
 have hkl := h1.lt
 have hke := h1.eq
 have hkn : (k : Int) < p.funcs.length := by omega
 rw [hbp] at HAO HAI
 have HBL := hid hbl0
 have HNE := hid hne
 clear hz h1 hbl0 HFN hok hbp hlow hl0 hl16 hne
 subst hke
 obtain ⟨sg, bl⟩ := x
 simp only at *
 obtain ⟨ae, hat⟩ : ∃ ae, ae = atE p (k : Int) block pl := ⟨_, rfl⟩
 have HAT := hid hat
 rw [← hat] at HNE ⊢
 clear hat
 generalize cntP p (k : Int) = cn at *
 generalize hn1 : p.types.length = n1 at *
 generalize hn2 : p.funcs.length = n2 at *
 clear hn1 hn2
 have HC := hid hkl
 by_cases b0 : block < 0
 ·have HE := hid (HAT.out.trans (HAO.out (by omega)))
  rw [HE.out]
  clear HAO HAI HNE HE HAT
  go_enter Tryz.func47, Tryz.ntmps47
  go_wp2_with fail
  rw [← HW.out]
  refine HRG.out.mono ?_
  rintro e w1 ⟨rfl, hb1⟩
  have h1 := h0.go hb1
  have HE := hid (h1.out HBW.out)
  clear HRG hb1
  go_wp2
  all_goals (try (exfalso; omega))
  go_ret2
  exact ⟨rfl, HE.out⟩
 by_cases b1 : (bl.length : Int) ≤ block
 ·have HE := hid (HAT.out.trans (HAO.out (by omega)))
  rw [HE.out]
  clear HAO HAI HNE HE HAT
  go_enter Tryz.func47, Tryz.ntmps47
  go_wp2_with fail
  rw [← HW.out]
  refine HRG.out.mono ?_
  rintro e w1 ⟨rfl, hb1⟩
  have h1 := h0.go hb1
  have HE := hid (h1.out HBW.out)
  clear HRG hb1
  go_wp2
  all_goals (try (exfalso; omega))
  go_ret2
  exact ⟨rfl, HE.out⟩
 obtain ⟨j, rfl⟩ : ∃ j : Nat, block = j := ⟨block.toNat, by omega⟩
 have hj : j < bl.length := by omega
 have hjn : (j : Int) < bl.length := by omega
 obtain ⟨gb, goff, xa, xc, rfl, z0, _⟩ := blk_ins HBL.out hj
 have HE := hid (HAT.out.trans (HAI.out j hj))
 clear HAO HAI b0 b1 HAT
 generalize (insAt bl j).length = m at *
 by_cases p0 : pl < 0
 ·rw [if_neg (by omega)] at HE
  rw [HE.out]
  clear HNE HE
  go_enter Tryz.func47, Tryz.ntmps47
  go_wp2_with fail
  rw [← HW.out]
  refine HRG.out.mono ?_
  rintro e w1 ⟨rfl, hb1⟩
  have h1 := h0.go hb1
  have HE := hid (h1.out HBW.out)
  clear HRG hb1
  go_wp2
  all_goals (try (exfalso; omega))
  go_ret2
  exact ⟨rfl, HE.out⟩
 have p1 : (m : Int) < pl := by
  refine Classical.byContradiction fun h => HNE.out ?_
  rw [HE.out, if_pos (by omega)]
 rw [if_neg (by omega)] at HE
 rw [HE.out]
 clear HNE HE
 go_enter Tryz.func47, Tryz.ntmps47
 go_wp2_with fail
 rw [← HW.out]
 refine HRG.out.mono ?_
 rintro e w1 ⟨rfl, hb1⟩
 have h1 := h0.go hb1
 have HE := hid (h1.out HBW.out)
 clear HRG hb1
 go_wp2
 all_goals (try (exfalso; omega))
 go_ret2
 exact ⟨rfl, HE.out⟩
end Go.Proofs.YtpejpnffcepdlaaGreatDoor.LiG
namespace Go.Proofs.YtpejpnffcepdlaaGreatDoor.LiH
open Go.RowKit Go.Lib SetP IntO TyM TyP TyB TyC ShM ShP ShA ShB ShE ShH ShI ShJ ShK ShL RwO Aft Fresh RgZ BitOf FwM FwC FwP FwQ FwR FwK FkN FkNx IntG FdQ LvM LvQ LuM LgD BlkG LiM LiA LiC LiD LiE LiF LiG

/-- what stands at a block, for its cut -/
theorem blk_facts {p : Px} {f : Int} {k : Nat} {x : Fx} (hok : POk p) (hz : findP p f = 0) (h1 : Has1 p f k x) : Regs (parOf p.types x.sig + manyB x.blocks) x.blocks ∧ ∀ j, j < x.blocks.length → (insAt x.blocks j).length ≤ 128 ∧ (∀ y ∈ insAt x.blocks j, (0 ≤ y.op ∧ y.op ≤ 255) ∧ y.args.length ≤ 16) ∧ 0 ≤ (endAt x.blocks j).kind ∧ (endAt x.blocks j).kind ≤ 255 := by
 have hxm := List.mem_of_getElem? h1.at_
 have hR := regs_of (find_zero hz).1 hok hxm
 refine ⟨hR, fun j hj => ?_⟩
 have hbm : x.blocks[j] ∈ x.blocks := List.getElem_mem hj
 have eX : insAt x.blocks j = x.blocks[j].ins := by unfold insAt; rw [List.getElem?_eq_getElem hj]; rfl
 have eE : endAt x.blocks j = x.blocks[j].en := by unfold endAt; rw [List.getElem?_eq_getElem hj]; rfl
 rw [eX, eE]
 exact ⟨Nat.le_trans (fewer hbm) hR.many, fun y hy => ⟨(hok x hxm _ hbm).2 y hy, hR.few _ hbm y hy⟩, (hok x hxm _ hbm).1⟩
theorem fr_succ {par : Nat} {bl : List Bx} {k : Nat} (h : k < bl.length) : frB par bl (k + 1) = frB par bl k + (insAt bl k).length := by
 have eX : insAt bl k = bl[k].ins := by unfold insAt; rw [List.getElem?_eq_getElem h]; rfl
 unfold frB
 rw [manyB_take h, eX]
 omega
theorem many_succ {bl : List Bx} {k : Nat} (h : k < bl.length) : manyB (bl.take (k + 1)) = manyB (bl.take k) + (insAt bl k).length := by
 have eX : insAt bl k = bl[k].ins := by unfold insAt; rw [List.getElem?_eq_getElem h]; rfl
 rw [manyB_take h, eX]

set_option maxRecDepth 100000 in
set_option maxHeartbeats 16000000 in
theorem find_yes (p : Px) (f block pl : Int) (k : Nat) (x : Fx) (v : Value) (w : World) (hp : PrAt w v p) (htab : Tab w) (hs : Small p) (hok : POk p) (hne : atE p f block pl = 0) (hx : Has1 p f k x) :
  Calls Tryz.prog 47 #[v, .int .i64 f, .int .i64 block, .int .i64 pl] w (FindY w (parOf p.types x.sig + manyB x.blocks) (parOf p.types x.sig) x.blocks) := by
 have hp0 := hp
 obtain ⟨vt, vf, rfl, ht, hf0⟩ := hp
 obtain ⟨W, hW⟩ : ∃ W, W = w.alloc (.cells #[vt, vf] 27) := ⟨_, rfl⟩
 have hbW : Below w.heap.size w W := by rw [hW]; exact alloc_below _ _
 have k1 : W.heap[w.heap.size]? = some (.cells #[vt, vf] 27 (0, 0)) := by rw [hW]; exact alloc_new _ _
 have HRG := hid (regsP_calls p f _ W (hp0.below hbW) (htab.on hbW) hs hok)
 obtain ⟨hz0, p0, p1⟩ := atE_zero hne
 obtain ⟨hz, b0, b1⟩ := ask_zero hz0
 have HNX := hid (fun (q : Nat) (hq : q < (blsP p f).length) (wx : World) (h : Aft W wx) => next_own_c p f (q : Int) _ wx ((hp0.below hbW).below h.below) ((htab.on hbW).on h.below) hs hok (ask_yes hz (by omega) (by omega)))
 have hHT := hid (fun (wx : World) (h : Aft W wx) => (htab.on hbW).on h.below)
 obtain ⟨fb, foff, fcap, ao, bc, he, d0, d1, hbl0⟩ := fn_later (hf0.below fnStays hbW) hx
 obtain ⟨ta, tc, rfl⟩ := ht.slice
 cases he
 have l0 := later_cells k1 0 _ rfl; have l1 := later_cells k1 1 _ rfl
 have HBW := hid hbW
 have HW := hid hW
 have h0 := Aft.refl W
 rw [if_pos hz, hz, cnt_at hx] at HRG
 obtain ⟨hlow, hl0, hl16⟩ := low_fn hok hz
 have hbp := fn_blocks hx
 obtain ⟨hR, hBF⟩ := blk_facts hok hz hx
 have hkl := hx.lt
 have hke := hx.eq
 have hkn : (k : Int) < p.funcs.length := by omega
 rw [hbp] at HNX hlow hl16 b1 p1
 have HBL := hid hbl0
 have HR := hid hR
 have HBF := hid hBF
 have HLOW := hid hlow
 have H16 := hid hl16
 have HPAR : Hid (parOf p.types x.sig ≤ 90000) := by
  show _ ≤ _
  have := par_le hs.parts hx.sig0 hx.sig1
  omega
 have HMB : Hid (manyB x.blocks ≤ 128) := hx.many
 clear hz hx hbl0 hok hbp hlow hl0 hl16 hne hz0 ht hf0 hbW hW k1 hp0 hs htab hR hBF
 subst hke
 obtain ⟨sg, bl⟩ := x
 simp only at *
 generalize parOf p.types sg = par at *
 generalize hn1 : p.types.length = n1 at *
 generalize hn2 : p.funcs.length = n2 at *
 clear hn1 hn2
 obtain ⟨j, rfl⟩ : ∃ j : Nat, block = j := ⟨block.toNat, by omega⟩
 have hj : j < bl.length := by omega
 have hjn : (j : Int) < bl.length := by omega
 obtain ⟨gb, goff, xa, xc, rfl, z0, _⟩ := blk_ins HBL.out hj
 have em : insN bl (j : Int) = (insAt bl j).length := by unfold insN insAt; rw [Int.toNat_natCast]
 rw [em] at p1
 clear em b0 b1
 generalize hN : par + manyB bl = N at *
 have HN := hid hN
 have HC := hid hkl
 clear hN
 go_enter Tryz.func47, Tryz.ntmps47
 go_wp2_with fail
 rw [← HW.out]
 refine HRG.out.mono ?_
 rintro e w1 ⟨rfl, hb1⟩
 have h1 := h0.go hb1
 have z1 := z0 w1 h1
 clear HRG hb1
 go_upto_region 7 with fail
 all_goals (try (exfalso; omega))
 obtain ⟨wb, hwb⟩ : ∃ wb, wb = (w1.alloc (.map #[] 0)).alloc (.cells #[.int .i64 (N : Int), .slice none 0 0, .map (some w1.heap.size)] 104) := ⟨_, rfl⟩
 obtain ⟨bm, hbm⟩ : ∃ bm, bm = w1.heap.size := ⟨_, rfl⟩
 obtain ⟨pb, hpb⟩ : ∃ pb, pb = w1.heap.size + 1 := ⟨_, rfl⟩
 have hst : FSt w1 pb bm N par bl (.slice none 0 0) [] wb := by
  have e1 := alloc_new w1 (.map #[] 0)
  have e2 := alloc_new (w1.alloc (.map #[] 0)) (.cells #[.int .i64 (N : Int), .slice none 0 0, .map (some w1.heap.size)] 104)
  rw [World.size_alloc, ← hpb, ← hwb, ← hbm] at e2
  rw [← hbm] at e1
  refine ⟨e2, ?_, World.ownsRow_nil _ _ _ _, fun i e hi => by simp at hi, ?_, by omega, by omega⟩
  ·rw [hwb]
   exact ((alloc_below _ _).block bm (by rw [World.size_alloc]; omega)).trans e1
  ·rw [hwb]
   exact ((Aft.refl w1).alloc _).alloc _
 have HST := hid hst
 have H1 := hid h1
 have HWB := hid hwb
 have HBM := hid hbm
 have HPB := hid hpb
 clear hst hwb hbm hpb z1
 have hmm := @run_makeMap Tryz.prog
 go_upto_region 8 with fail
 rw [← HWB.out, ← HPB.out, ← HBM.out]
 have hNb : N ≤ 90128 := by have := HN.out; have := HPAR.out; have := HMB.out; omega
 have HTK := hid (fun (q : Nat) (hq : q < bl.length) => many_succ hq)
 have HTL := hid (fun (q : Nat) => manyB_le bl q)
 clear hmm z0 p0 p1
 go_wp2_with fail
 go_loopg [14, 16, 65] bl.length (fun gk fv _ iv wr => ∃ q : Nat, q + gk = bl.length ∧ iv = .int .i64 q ∧ fv = .int .i64 ((N - manyB (bl.take q) : Nat) : Int) ∧ FSt w1 pb bm N par bl (.slice none 0 0) [] wr)
 case atStart => exact ⟨0, by omega, rfl, by simp [manyB], HST.out⟩
 case round =>
  obtain ⟨q, hq, rfl, rfl, hst⟩ := hrel
  have HQ := hid hq
  have HSQ := hid hst
  have hA : Aft W wr := H1.out.trans hst.bel
  clear HST hq hst
  by_cases hlt : q < bl.length
  ·have HLT := hid hlt
   obtain ⟨gq, qoff, ya, yc, he, y0, _, y1, y2, y3, y4⟩ := blk_ins HBL.out hlt
   cases he
   have c0 := y0 wr hA; have c1 := y1 wr hA; have c2 := y2 wr hA; have c3 := y3 wr hA; have c4 := y4 wr hA
   have hql : (q : Int) < (bl.length : Int) := by omega
   have hqb : q ≤ 9223372036854775806 := by have := H16.out; omega
   have hle := HTL.out (q + 1)
   have HSN := hid (HSQ.out.go (alloc_below wr (.cells #[.slice ya (insAt bl q).length yc, .int .u8 (endAt bl q).kind, .int .i64 (endAt bl q).a, .int .i64 (endAt bl q).to, .int .i64 (endAt bl q).els] 38)))
   have e1 : ((N - manyB (bl.take q) : Nat) : Int) - ((insAt bl q).length : Int) = ((N - manyB (bl.take (q + 1)) : Nat) : Int) := by
    have h1 := HTK.out q hlt
    have h2 := HN.out
    omega
   have hf0 : (0 : Int) ≤ ((N - manyB (bl.take q) : Nat) : Int) := by omega
   have hf1 : ((N - manyB (bl.take q) : Nat) : Int) ≤ 90128 := by omega
   have hm1 := (HBF.out q hlt).1
   have HE1 := hid e1
   clear y0 y1 y2 y3 y4 hlt hle e1 HTK HTL
   generalize ((N - manyB (bl.take q) : Nat) : Int) = f1 at *
   generalize (insAt bl q).length = m1 at *
   generalize (endAt bl q) = en1 at *
   obtain ⟨ek, ea, et, ee⟩ := en1
   simp only at *
   go_wp2
   go_roundg (gk - 1)
   case measure => have := HQ.out; have := HLT.out; omega
   case rel => exact ⟨q + 1, by have := HQ.out; have := HLT.out; omega, by go_num, by rw [HE1.out], HSN.out⟩
  ·obtain rfl : q = bl.length := by have := HQ.out; omega
   have e1 : ((N - manyB (bl.take bl.length) : Nat) : Int) = ((frB par bl 0 : Nat) : Int) := by
    rw [List.take_length]
    have := HN.out
    unfold frB
    simp [manyB]
    simp [manyB] at this
    omega
   rw [e1]
   clear e1 hlt hA HQ HTL
   obtain ⟨wo, hwo⟩ : ∃ wo : World, wo = wr := ⟨wr, rfl⟩
   subst hwo
   go_wp2_with fail
   go_loopg [14, 17, 18, 19, 20, 77] bl.length (fun gk fv _ _ _ _ iv wr => ∃ (q : Nat) (vo : Value) (els : List El), q + gk = bl.length ∧ iv = .int .i64 q ∧ fv = .int .i64 ((frB par bl q : Nat) : Int) ∧ FSt w1 pb bm N par bl vo els wr ∧ els.length = q)
   case atStart => exact ⟨0, _, [], by omega, rfl, rfl, HSQ.out, rfl⟩
   case round =>
    obtain ⟨q, vo, els, hq, rfl, rfl, hst, hel⟩ := hrel
    have HQ := hid hq
    have HSR := hid hst
    have HEL := hid hel
    have hA : Aft W wr := H1.out.trans hst.bel
    clear hq hst hel HSQ
    by_cases hlt : q < bl.length
    ·have HLT := hid hlt
     obtain ⟨gq, qoff, ya, yc, he, y0, hyi, y1, y2, y3, y4⟩ := blk_ins HBL.out hlt
     cases he
     have c0 := y0 wr hA; have c1 := y1 wr hA; have c2 := y2 wr hA; have c3 := y3 wr hA; have c4 := y4 wr hA
     have hql : (q : Int) < (bl.length : Int) := by omega
     have hqb : q ≤ 9223372036854775806 := by have := H16.out; omega
     obtain ⟨w2, hw2⟩ : ∃ w2, w2 = wr.alloc (.cells #[.slice ya (insAt bl q).length yc, .int .u8 (endAt bl q).kind, .int .i64 (endAt bl q).a, .int .i64 (endAt bl q).to, .int .i64 (endAt bl q).els] 38) := ⟨_, rfl⟩
     obtain ⟨bx, hbx⟩ : ∃ bx, bx = wr.heap.size := ⟨_, rfl⟩
     have hb2 : Below wr.heap.size wr w2 := by rw [hw2]; exact alloc_below _ _
     have k2 : w2.heap[bx]? = some (.cells #[.slice ya (insAt bl q).length yc, .int .u8 (endAt bl q).kind, .int .i64 (endAt bl q).a, .int .i64 (endAt bl q).to, .int .i64 (endAt bl q).els] 38 (0, 0)) := by rw [hw2, hbx]; exact alloc_new _ _
     have hst2 := HSR.out.go hb2
     have hA2 : Aft W w2 := hA.go hb2
     have HNX2 := hid (HNX.out q hlt w2 hA2)
     have q0 := l0 w2 hA2; have q1 := l1 w2 hA2
     rw [Int.toNat_natCast, ← ints_succ HLOW.out hlt] at HNX2
     have HW2 := hid hw2
     have HBX := hid hbx
     have HS2 := hid hst2
     have HK2 := hid k2
     have HA2 := hid hA2
     have HYI := hid hyi
     clear y0 y1 y2 y3 y4 hst2 hA2 hw2 hbx k2 hb2 hA hyi
     go_upto_region 17 with fail
     rw [← HW2.out, ← HBX.out]
     go_wp2_with fail
     refine HNX2.out.mono ?_
     rintro e w3 ⟨u3, rfl, hu3, hb3⟩
     obtain ⟨na, nc, rfl⟩ := own_form hu3
     have hd3 : Below w3.heap.size w3 w3.drew := (Below.refl _ w3).drew
     have hS3 := (HS2.out.go hb3).go hd3
     have k3 := (hd3.block bx (by have := (Array.getElem?_eq_some_iff.1 ((hb3.block bx (Array.getElem?_eq_some_iff.1 HK2.out).1).trans HK2.out)).1; exact this)).trans ((hb3.block bx (Array.getElem?_eq_some_iff.1 HK2.out).1).trans HK2.out)
     have hA3 : Aft W w3.drew := (HA2.out.go hb3).go hd3
     have hu3d : w3.drew.ownsRow w2.heap.size 3 1 (.slice na (ints (succ bl q)).length nc) (ints (succ bl q)).length (intVals (ints (succ bl q))) := ownsRow_below hu3 hd3
     have hbf := HBF.out q hlt
     have HMN : Hid ((insAt bl q).length ≤ 128) := hbf.1
     have HFB : Hid (frB par bl q ≤ 90128) := by
      show _ ≤ _
      have h1 := manyB_le bl q
      have := HPAR.out; have := HMB.out
      unfold frB
      omega
     have HC1 : Hid (Calls Tryz.prog 48 #[.agg #[.slice ya (insAt bl q).length yc, .int .u8 (endAt bl q).kind, .int .i64 (endAt bl q).a, .int .i64 (endAt bl q).to, .int .i64 (endAt bl q).els], .int .i64 ((frB par bl q : Nat) : Int), .int .i64 0] w3.drew (PartR w3.drew (frB par bl q) (insAt bl q).length (rdB par bl q))) := by
      have h := cut_c ⟨insAt bl q, endAt bl q⟩ (.slice ya (insAt bl q).length yc) (frB par bl q) 0 w3.drew (HYI.out.below insStays hA3.below) (hHT.out _ hA3) (Nat.zero_le _) hbf.1 hbf.2.1 hbf.2.2 (by have := HFB.out; omega)
      rw [Nat.add_zero, List.drop_zero] at h
      exact h
     have HP1 := hid (fun (wx : World) (h : Aft w3.drew wx) => phis_c bl (.slice (some ⟨gb, goff, none⟩) bl.length bc) (.slice na (ints (succ bl q)).length nc) q (succ bl q) N wx (HBL.out.below blkStays (hA3.trans h).below) (intsAt_of_owns (ownsRow_below hu3d h.below) (by have := succ_len bl q; rw [ints_length]; omega)) (succ_lt HLOW.out q hlt) (succ_len bl q) HR.out (by have := H16.out; omega))
     have HFS := hid (fr_succ (par := par) hlt)
     have HSX : Hid (∀ wz, FSt w1 pb bm N par bl vo els wz → wz.heap[bx]? = some (.cells #[.slice ya (insAt bl q).length yc, .int .u8 (endAt bl q).kind, .int .i64 (endAt bl q).a, .int .i64 (endAt bl q).to, .int .i64 (endAt bl q).els] 38 (0, 0)) → wz.cell? ⟨pb, 1, none⟩ = some vo ∧ wz.cell? ⟨bx, 0, none⟩ = some (.slice ya (insAt bl q).length yc) ∧ wz.cell? ⟨bx, 1, none⟩ = some (.int .u8 (endAt bl q).kind) ∧ wz.cell? ⟨bx, 2, none⟩ = some (.int .i64 (endAt bl q).a) ∧ wz.cell? ⟨bx, 3, none⟩ = some (.int .i64 (endAt bl q).to) ∧ wz.cell? ⟨bx, 4, none⟩ = some (.int .i64 (endAt bl q).els)) :=
      fun wz h1 h2 => ⟨h1.cell, later_cells h2 0 _ rfl wz (Aft.refl _), later_cells h2 1 _ rfl wz (Aft.refl _), later_cells h2 2 _ rfl wz (Aft.refl _), later_cells h2 3 _ rfl wz (Aft.refl _), later_cells h2 4 _ rfl wz (Aft.refl _)⟩
     have hd := HSX.out _ hS3 k3
     have HS3 := hid hS3
     have HK3 := hid k3
     have HU3 := hid hu3d
     have HB2S := hid (HS2.out.bel.size)
     go_upto_region 18 with fail
     clear hS3 k3 hu3 hu3d hA3 hd3 hb3 HS2 HK2 HA2 HNX2 hbf q0 q1 c0 c1 c2 c3 c4
     refine wp_region_noPanic ?_
     refine wp_region_Z (S := (fun w' => w'.cell? ⟨pb, 1, none⟩ = some vo ∧ w'.cell? ⟨bx, 0, none⟩ = some (.slice ya (insAt bl q).length yc) ∧ w'.cell? ⟨bx, 1, none⟩ = some (.int .u8 (endAt bl q).kind) ∧ w'.cell? ⟨bx, 2, none⟩ = some (.int .i64 (endAt bl q).a) ∧ w'.cell? ⟨bx, 3, none⟩ = some (.int .i64 (endAt bl q).to) ∧ w'.cell? ⟨bx, 4, none⟩ = some (.int .i64 (endAt bl q).els))) (Z := [18]) (by kernel_rfl) ?_ (fun hHeld => ?_)
     ·exact hd
     refine zP 0 rfl ?_
     refine zP 1 rfl ?_
     refine zP 2 rfl ?_
     refine zP 3 rfl ?_
     refine zT 4 rfl ?_
     refine zT 5 rfl ?_
     refine zP 6 rfl ?_
     refine zP 8 rfl ?_
     refine zP 9 rfl ?_
     refine zP 10 rfl ?_
     refine zP 11 rfl ?_
     refine zC 7 rfl (fun K hK => ?_)
     go_simp
     (go_at_call 48; (with_reducible refine HC1.out.mono ?_); rintro e wx ⟨u7, rfl, hu7, hbx⟩)
     have HSx := hid (HS3.out.go hbx)
     have HKx := hid ((hbx.block bx (Array.getElem?_eq_some_iff.1 HK3.out).1).trans HK3.out)
     have hx := HSX.out _ HSx.out HKx.out
     refine hK.out _ _ ?_ (fun hHeld => ?_)
     ·exact hx
     clear hK K
     have hax : Aft w3.drew wx := hbx
     have HP2 := hid (HP1.out wx hax)
     refine zC 12 rfl (fun K hK => ?_)
     go_simp
     (go_at_call 86; (with_reducible refine HP2.out.mono ?_); rintro e wy ⟨u12, rfl, hu12, hby⟩)
     have HSy := hid (HSx.out.go hby)
     have HKy := hid ((hby.block bx (Array.getElem?_eq_some_iff.1 HKx.out).1).trans HKx.out)
     have hy := HSX.out _ HSy.out HKy.out
     refine hK.out _ _ ?_ (fun hHeld => ?_)
     ·exact hy
     clear hK K
     have hby2 : Aft w3.drew wy := hax.go hby
     obtain ⟨ra, rc, rfl⟩ := own_form hu7
     obtain ⟨pa, pc, rfl⟩ := own_form hu12
     have hok : ElOk w1.heap.size wy par bl els.length ⟨.slice ra (ofS (rdB par bl q)).length rc, frB par bl q, frB par bl q + (insAt bl q).length, .slice na (ints (succ bl q)).length nc, .slice pa (ofS (phL q bl (succ bl q))).length pc⟩ := by
      rw [HEL.out]
      have hs1 : w1.heap.size ≤ w3.drew.heap.size := HS3.out.bel.size
      exact ⟨rfl, rfl, owns_base (ownsRow_below hu7 hby) hs1, owns_base (ownsRow_below HU3.out hby2.below) HB2S.out, owns_base hu12 (Nat.le_trans hs1 hax.size)⟩
     have HOK := hid hok
     have hbsz : w1.heap.size ≤ wy.heap.size := HSy.out.bel.size
     have HPT := hid (fun (w9 : World) (v9 : Value) ho hg => HSy.out.put (tmp := .cells (elV ⟨.slice ra (ofS (rdB par bl q)).length rc, frB par bl q, frB par bl q + (insAt bl q).length, .slice na (ints (succ bl q)).length nc, .slice pa (ofS (phL q bl (succ bl q))).length pc⟩).toArray 100) (w1 := w9) (v' := v9) hok ho hg)
     have HKP := hid (fun (w9 : World) (v9 : Value) hg => HSy.out.keeps (tmp := .cells (elV ⟨.slice ra (ofS (rdB par bl q)).length rc, frB par bl q, frB par bl q + (insAt bl q).length, .slice na (ints (succ bl q)).length nc, .slice pa (ofS (phL q bl (succ bl q))).length pc⟩).toArray 100) (w1 := w9) (v' := v9) hg HKy.out (by decide) (by decide))
     have HK0 := hid (fun (w9 : World) hg => HSy.out.keeps0 (tmp := .cells (elV ⟨.slice ra (ofS (rdB par bl q)).length rc, frB par bl q, frB par bl q + (insAt bl q).length, .slice na (ints (succ bl q)).length nc, .slice pa (ofS (phL q bl (succ bl q))).length pc⟩).toArray 100) (w1 := w9) hg HKy.out (by decide))
     have HROW := hid (HSy.out.row.alloc (.cells (elV ⟨.slice ra (ofS (rdB par bl q)).length rc, frB par bl q, frB par bl q + (insAt bl q).length, .slice na (ints (succ bl q)).length nc, .slice pa (ofS (phL q bl (succ bl q))).length pc⟩).toArray 100))
     have HLN : Hid (els.length ≤ 16) := by have := HEL.out; have := H16.out; show _ ≤ _; omega
     clear hok HOK hd hx hby2 hax hbx hby hu7 hu12 HC1 HP1 HP2 HSx HKx HS3 HK3 HU3
     generalize (ofS (rdB par bl q)).length = rn at *
     generalize (ofS (phL q bl (succ bl q))).length = pn at *
     generalize (ints (succ bl q)).length = nn at *
     generalize (insAt bl q).length = mn at *
     refine zP 13 rfl ?_
     refine zC 14 rfl (fun K hK => ?_)
     go_simp
     refine hK.out _ _ ?_ (fun hHeld => ?_)
     ·exact ⟨ShP.keep_below (alloc_below _ _) hy.1, ShP.keep_below (alloc_below _ _) hy.2.1, ShP.keep_below (alloc_below _ _) hy.2.2.1, ShP.keep_below (alloc_below _ _) hy.2.2.2.1, ShP.keep_below (alloc_below _ _) hy.2.2.2.2.1, ShP.keep_below (alloc_below _ _) hy.2.2.2.2.2⟩
     clear hK K
     refine zC 15 rfl (fun K hK => ?_)
     rw [if_pos (by rfl)]
     refine wp_append_row (f := elV) elW (by decide) elInfo Tryz.underlying101 rfl (.tmp 93) (.tmp 103) rfl w1.heap.size vo rfl els.length (rowOf elV els) HROW.out wy.heap.size 0 1 1 [⟨.slice ra rn rc, frB par bl q, frB par bl q + mn, .slice na nn nc, .slice pa pn pc⟩] rfl rfl ?_ ?_ ?_ ?_ ?_ ?_
     ·intro y hy u hu
      rw [List.mem_singleton.1 hy] at hu
      simp [elV] at hu
      rcases hu with rfl | rfl | rfl | rfl | rfl <;> rfl
     ·intro i u hi
      rw [rowOf_one] at hi
      have h2 := alloc_new wy (.cells (elV ⟨.slice ra rn rc, frB par bl q, frB par bl q + mn, .slice na nn nc, .slice pa pn pc⟩).toArray 100)
      have := later_cells h2 i u (by simpa using hi) _ (Aft.refl _)
      rw [Nat.zero_add]
      exact this
     ·have := HLN.out; unfold maxLen; simp; omega
     ·have := HLN.out; simp; omega
     ·rw [World.size_alloc]; omega
     intro v9 w9 ho9 hg9
     obtain ⟨f9, c9, hS9⟩ := HPT.out w9 v9 ho9 hg9
     have hK9 := HKP.out w9 v9 hg9
     have h0 := HK0.out w9 hg9
     obtain ⟨va9, vc9, rfl⟩ := own_form ho9
     refine hK.out _ _ ?_ (fun hHeld => ?_)
     ·exact ⟨c9, later_cells h0 0 _ rfl w9 (Aft.refl _), later_cells h0 1 _ rfl w9 (Aft.refl _), later_cells h0 2 _ rfl w9 (Aft.refl _), later_cells h0 3 _ rfl w9 (Aft.refl _), later_cells h0 4 _ rfl w9 (Aft.refl _)⟩
     clear hK K
     refine zP 16 rfl ?_
     refine zP 17 rfl ?_
     have m0 := later_cells hK9 0 _ rfl _ (Aft.refl _)
     have HS9 := hid hS9
     clear hy hS9 hK9 h0 ho9 hg9 HPT HKP HK0 HROW hbsz HSy HKy HSX
     refine zL 18 rfl (fun K hK => ?_)
     go_simp
     refine hK.out _ _ ?_
     clear hK K
     refine wpAnyZ_done (by kernel_rfl) ?_ _
     refine NoPanic.normal ?_
     have hfb := HFB.out
     have hmb : mn ≤ 128 := HMN.out
     clear f9 c9
     obtain ⟨w10, hw10⟩ : ∃ w10, w10 = w9.setCell ⟨pb, 1, none⟩ (.slice va9 (els.length + 1) vc9) := ⟨_, rfl⟩
     rw [← hw10] at m0 HS9
     rw [← hw10]
     clear hw10
     go_wp2
     go_roundg (gk - 1)
     case measure => have := HQ.out; have := HLT.out; omega
     case rel => exact ⟨q + 1, _, _, by have := HQ.out; have := HLT.out; omega, by go_num, by rw [HFS.out]; simp, HS9.out, by rw [List.length_append, HEL.out]; rfl⟩
    ·obtain rfl : q = bl.length := by have := HQ.out; omega
     have HE := hid (H1.out.out HBW.out)
     clear hlt hA
     go_wp2
     go_ret2
     exact ⟨w1, pb, bm, vo, els, rfl, HE.out, HSR.out, HEL.out⟩
end Go.Proofs.YtpejpnffcepdlaaGreatDoor.LiH
namespace Go.Proofs.YtpejpnffcepdlaaGreatDoor.LiI
open Go.RowKit Go.Lib SetP IntO TyM TyP TyB TyW ShM ShP RwO Aft BitOf FwP FwQ FwR LvM LuM LgD LiM LiA LiE LiF

/-- only that block is written to -/
def But (bm : Nat) (W w : World) : Prop := W.grownBy w (some bm)
section
variable {bm : Nat} {W w w' : World}
theorem But.refl (bm : Nat) (w : World) : But bm w w := World.grownBy.refl w _
theorem But.go (h : But bm W w) (hb : Below w.heap.size w w') : But bm W w' := h.trans ⟨hb.os, hb.tape, hb.output, hb.size, fun k hk _ => hb.block k hk⟩
theorem But.trans (h : But bm W w) (k : But bm w w') : But bm W w' := World.grownBy.trans h k
theorem But.alloc (h : But bm W w) (o : Obj) : But bm W (w.alloc o) := h.go (alloc_below w o)
theorem But.size (h : But bm W w) : W.heap.size ≤ w.heap.size := World.grownBy.size h
theorem But.heap (h : But bm W w) {b : Nat} {o : Obj} (hb : W.heap[b]? = some o) (hne : b ≠ bm) : w.heap[b]? = some o :=
 (World.grownBy.block h b (Array.getElem?_eq_some_iff.1 hb).1 (fun e => hne (Option.some.inj e))).trans hb
theorem But.set (h : But bm W w) {b i : Nat} (hb : W.heap.size ≤ b) (u : Value) : But bm W (w.setCell ⟨b, i, none⟩ u) := by
 have h1 : W.grownBy w (some bm) := h
 refine ⟨h1.os, h1.tape, h1.output, by rw [TyD.size_set]; exact h1.size, fun k hk hne => ?_⟩
 rw [Below.heap_setCell w ⟨b, i, none⟩ u k (by show k ≠ b; omega)]
 exact h1.block k hk hne
theorem owns_but {B s n : Nat} {e : TypeId} {v : Value} {xs : List Value} {es : Array MapEntry} {c : Nat} (h : W.ownsRow B e s v n xs) (hm : W.heap[bm]? = some (.map es c)) (hg : But bm W w) : w.ownsRow B e s v n xs :=
 World.ownsRow.kept h hg (.inr fun hv => by
  obtain ⟨cs, fr, h1⟩ := own_typed h bm hv
  rw [hm] at h1
  cases h1)
end
/-- what the blocks are, from then on -/
structure Body (W : World) (pb bm N par : Nat) (bl : List Bx) (rb rc : Nat) : Prop where
 regs : ∀ w', But bm W w' → w'.cell? ⟨pb, 0, none⟩ = some (.int .i64 (N : Int))
 row : ∀ w', But bm W w' → w'.cell? ⟨pb, 1, none⟩ = some (.slice (some ⟨rb, 0, none⟩) bl.length rc)
 anew : ∀ w', But bm W w' → w'.cell? ⟨pb, 2, none⟩ = some (.map (some bm))
 lt : pb < W.heap.size
 each : ∀ i, i < bl.length → ∃ (ra : Option Addr) (rn : Nat) (na : Option Addr) (nn : Nat) (pa : Option Addr) (pn : Nat),
  (∀ w', But bm W w' → w'.cell? ⟨rb, i * 5, none⟩ = some (.slice ra (ofS (rdB par bl i)).length rn)) ∧
  (∀ w', But bm W w' → w'.cell? ⟨rb, i * 5 + 1, none⟩ = some (.int .i64 ((frB par bl i : Nat) : Int))) ∧
  (∀ w', But bm W w' → w'.cell? ⟨rb, i * 5 + 2, none⟩ = some (.int .i64 ((frB par bl i + (insAt bl i).length : Nat) : Int))) ∧
  (∀ w', But bm W w' → w'.cell? ⟨rb, i * 5 + 3, none⟩ = some (.slice na (succ bl i).length nn)) ∧
  (∀ w', But bm W w' → w'.cell? ⟨rb, i * 5 + 4, none⟩ = some (.slice pa (ofS (phL i bl (succ bl i))).length pn)) ∧
  (∀ w', But bm W w' → SetAt w' (.slice ra (ofS (rdB par bl i)).length rn) (ofS (rdB par bl i))) ∧
  (∀ w', But bm W w' → IntsAt w' (.slice na (succ bl i).length nn) (ints (succ bl i))) ∧
  (∀ w', But bm W w' → SetAt w' (.slice pa (ofS (phL i bl (succ bl i))).length pn) (ofS (phL i bl (succ bl i))))
theorem body_of {W0 W : World} {pb bm N par : Nat} {bl : List Bx} {vo : Value} {els : List El} (h : FSt W0 pb bm N par bl vo els W) (hl : els.length = bl.length) (h0 : 0 < bl.length) : MapS W bm [] ∧ ∃ rb rc, Body W pb bm N par bl rb rc := by
 refine ⟨mapS_of h.map, ?_⟩
 have hne : pb ≠ bm := fun e => by
  have h1 := h.blk
  rw [e, h.map] at h1
  cases h1
 have hpc : ∀ w', But bm W w' → ∀ i v, (#[Value.int .i64 (N : Int), vo, .map (some bm)] : Array Value)[i]? = some v → w'.cell? ⟨pb, i, none⟩ = some v := fun w' hb i v hi => later_cells (hb.heap h.blk hne) i v hi w' (Aft.refl _)
 have hxs : 0 < (rowOf elV els).length := by rw [elW.len, hl]; omega
 obtain ⟨rb, rc, hv, _, _, _, _⟩ := row_cells h.row hxs
 subst hv
 have hcell : ∀ w', But bm W w' → ∀ j u, (rowOf elV els)[j]? = some u → w'.cell? ⟨rb, j, none⟩ = some u := by
  intro w' hb j u hj
  obtain ⟨b2, c2, e2, _, _, _, hc⟩ := row_cells (owns_but h.row h.map hb) hxs
  cases e2
  exact hc j u hj
 refine ⟨rb, rc, fun w' hb => hpc w' hb 0 _ rfl, fun w' hb => by rw [← hl]; exact hpc w' hb 1 _ rfl, fun w' hb => hpc w' hb 2 _ rfl, (Array.getElem?_eq_some_iff.1 h.blk).1, fun i hi => ?_⟩
 have hie : i < els.length := by omega
 obtain ⟨e, he⟩ : ∃ e, els[i]? = some e := ⟨_, List.getElem?_eq_getElem hie⟩
 have hee : els[i] = e := (List.getElem?_eq_some_iff.1 he).2
 have hok := h.ok i e he
 obtain ⟨r, fr, th, nx, ph⟩ := e
 obtain ⟨o1, o2, o3, o4, o5⟩ := hok
 simp only at o1 o2 o3 o4 o5
 subst o1
 subst o2
 obtain ⟨ra, rn, rfl⟩ := own_form o3
 obtain ⟨na, nn, rfl⟩ := own_form o4
 obtain ⟨pa, pn, rfl⟩ := own_form o5
 rw [ints_length] at o4 hee
 have hat : ∀ j u, j < 5 → (elV els[i])[j]? = some u → (rowOf elV els)[i * 5 + j]? = some u := fun j u hj hu => (elW.at els i hie j hj).trans hu
 rw [hee] at hat
 have hs : ∀ (l : List Int), (ofS l).length ≤ 9223372036854775807 := fun l => by have := of_len l; omega
 refine ⟨ra, rn, na, nn, pa, pn, fun w' hb => hcell w' hb _ _ (hat 0 _ (by decide) rfl), fun w' hb => hcell w' hb _ _ (hat 1 _ (by decide) rfl), fun w' hb => hcell w' hb _ _ (hat 2 _ (by decide) rfl), fun w' hb => hcell w' hb _ _ (hat 3 _ (by decide) rfl), fun w' hb => hcell w' hb _ _ (hat 4 _ (by decide) rfl), fun w' hb => ?_, fun w' hb => ?_, fun w' hb => ?_⟩
 ·exact SetO.setAt_of_owns (owns_but o3 h.map hb) (hs _)
 ·exact intsAt_of_owns (owns_but o4 h.map hb) (by have := succ_len bl i; rw [ints_length]; omega)
 ·exact SetO.setAt_of_owns (owns_but o5 h.map hb) (hs _)
/-! the registers that are met are few -/
theorem readK_in {fr : Nat} {xs : List Ix} {n : Int} : ∀ {k : Nat}, n ∈ readK fr xs k → ∃ x ∈ xs, n ∈ usesOf x
 | 0, h => by simp [readK] at h
 | k + 1, h => by
  have h1 : n ∈ readK fr xs k ∨ n ∈ (match xs[k]? with | some x => outs fr k (LuM.seen x) | none => []) := List.mem_append.1 h
  rcases h1 with h1 | h1
  ·exact readK_in h1
  ·cases e : xs[k]? with
   | none => rw [e] at h1; cases h1
   | some x =>
    rw [e] at h1
    have h2 : n ∈ LuM.seen x := (List.mem_filter.1 h1).1
    unfold LuM.seen at h2
    split at h2
    ·cases h2
    ·exact ⟨x, List.mem_of_getElem? e, h2⟩
theorem cutR_in {fr : Nat} {xs : List Ix} {en : Ex} {n : Int} (h : n ∈ cutR fr xs en) : (∃ x ∈ xs, n ∈ usesOf x) ∨ n ∈ endsOf en := by
 unfold cutR at h
 rcases List.mem_append.1 h with h | h
 ·exact .inl (readK_in h)
 ·exact .inr (List.mem_filter.1 h).1
theorem cut_low {N : Nat} {bl : List Bx} (h : Regs N bl) (hN : N ≤ 1048576) {b : Nat} (hb : b < bl.length) (fr pl : Nat) : Lows (cutR fr ((insAt bl b).drop pl) (endAt bl b)) := by
 have hm : bl[b] ∈ bl := List.getElem_mem hb
 have eX : insAt bl b = bl[b].ins := by unfold insAt; rw [List.getElem?_eq_getElem hb]; rfl
 have eE : endAt bl b = bl[b].en := by unfold endAt; rw [List.getElem?_eq_getElem hb]; rfl
 intro n hn
 rcases cutR_in hn with ⟨x, hx, hu⟩ | hu
 ·have h1 := List.mem_of_mem_drop hx
  rw [eX] at h1
  have := h.uses _ hm x h1 n hu
  omega
 ·rw [eE] at hu
  have := h.ends _ hm n hu
  omega
theorem rd_low {N par : Nat} {bl : List Bx} (h : Regs N bl) (hN : N ≤ 1048576) {b : Nat} (hb : b < bl.length) : Lows (rdB par bl b) := by
 have := cut_low h hN hb (frB par bl b) 0
 rwa [List.drop_zero] at this
theorem ph_low {N : Nat} {bl : List Bx} (h : Regs N bl) (hN : N ≤ 1048576) {b : Nat} {js : List Nat} (hj : ∀ j ∈ js, j < bl.length) : Lows (phL b bl js) := by
 intro n hn
 unfold phL at hn
 obtain ⟨j, hjs, h1⟩ := List.mem_flatMap.1 hn
 have hjl := hj j hjs
 have hm : bl[j] ∈ bl := List.getElem_mem hjl
 have eX : insAt bl j = bl[j].ins := by unfold insAt; rw [List.getElem?_eq_getElem hjl]; rfl
 unfold insL at h1
 obtain ⟨x, hx, h2⟩ := List.mem_flatMap.1 h1
 rw [eX] at hx
 unfold prL at h2
 split at h2
 ·rename_i h22
  obtain ⟨q, hq, rfl⟩ := List.mem_map.1 h2
  have h3 := List.mem_of_mem_take (List.mem_filter.1 hq).1
  have h4 := (List.of_mem_zip (a := q.1) (b := q.2) h3).2
  have := (h.phi _ hm x hx h22).2 q.2 h4
  omega
 ·cases h2
end Go.Proofs.YtpejpnffcepdlaaGreatDoor.LiI
namespace Go.Proofs.YtpejpnffcepdlaaGreatDoor.LiK
open Go.RowKit Go.Lib Go.Maps SetP IntO TyM TyP TyB ShM ShP RwO Aft RgZ BitOf FwP FwQ FwR FwM FwB IntG LvM LvQ LvW LuM LgD LiM LiA LiE LiF LiI

/-- which are begun -/
def bg (G : List Nat) : List Value := (List.range 16).map fun i => Value.bool (decide (i ∈ G))
theorem bg_len (G : List Nat) : (bg G).length = 16 := by simp [bg]
theorem bg_at {G : List Nat} {i : Nat} (h : i < 16) : (bg G)[i]? = some (.bool (decide (i ∈ G))) := by simp [bg, h]
theorem bg_set {G : List Nat} {k : Nat} (h : k < 16) : (bg G).set k (.bool true) = bg (G ++ [k]) := by
 refine List.ext_getElem? fun i => ?_
 by_cases hi : i < 16
 ·rw [bg_at hi, List.getElem?_set]
  by_cases e : k = i
  ·subst e
   rw [if_pos rfl, if_pos (by rw [bg_len]; exact h)]
   simp
  ·rw [if_neg e, bg_at hi]
   have : (i ∈ G ++ [k]) ↔ i ∈ G := by
    rw [List.mem_append, List.mem_singleton]
    exact ⟨fun h => h.elim id fun e2 => absurd e2.symm e, .inl⟩
   rw [decide_eq_decide.2 this]
 ·rw [List.getElem?_eq_none (by rw [List.length_set, bg_len]; omega), List.getElem?_eq_none (by rw [bg_len]; omega)]
/-- what the search keeps -/
structure SrchAt (W : World) (ps pb bm r : Nat) (A G : List Nat) (w : World) : Prop where
 but : But bm W w
 blk : w.heap[ps]? = some (.cells (.pointer (some ⟨pb, 0, none⟩) :: .int .i64 (r : Int) :: bg G).toArray 151 (0, 0))
 map : MapS w bm A
 hps : W.heap.size ≤ ps
section
variable {W w w' : World} {ps pb bm r : Nat} {A G : List Nat}
theorem SrchAt.go (h : SrchAt W ps pb bm r A G w) (hb : Below w.heap.size w w') : SrchAt W ps pb bm r A G w' :=
 ⟨h.but.go hb, (hb.block ps (Array.getElem?_eq_some_iff.1 h.blk).1).trans h.blk, h.map.kept (hb.block bm h.map.lt), h.hps⟩
theorem SrchAt.cell (h : SrchAt W ps pb bm r A G w) {i : Nat} {v : Value} (hi : (.pointer (some ⟨pb, 0, none⟩) :: .int .i64 (r : Int) :: bg G)[i]? = some v) : w.cell? ⟨ps, i, none⟩ = some v :=
 later_cells h.blk i v (by simpa using hi) w (Aft.refl _)
theorem SrchAt.frozen (h : SrchAt W ps pb bm r A G w) (i : Nat) : w.frozen? ⟨ps, i, none⟩ = false := by unfold World.frozen?; rw [h.blk]; simp
theorem SrchAt.ne (h : SrchAt W ps pb bm r A G w) : bm ≠ ps := by
 intro e
 obtain ⟨_, D, ⟨es, clock, h1, _⟩, _⟩ := h.map
 have h2 := h.blk
 rw [e] at h1
 rw [h1] at h2
 cases h2
theorem SrchAt.begin (h : SrchAt W ps pb bm r A G w) {k : Nat} (hk : k < 16) : SrchAt W ps pb bm r A (G ++ [k]) (w.setCell ⟨ps, 2 + k, none⟩ (.bool true)) := by
 refine ⟨h.but.set h.hps _, ?_, h.map.kept (Below.heap_setCell w ⟨ps, 2 + k, none⟩ _ bm h.ne), h.hps⟩
 have h1 := TyD.set_heap (i := 2 + k) (.bool true) h.blk
 rw [h1, List.setIfInBounds_toArray, show 2 + k = k + 1 + 1 by omega, List.set_cons_succ, List.set_cons_succ, bg_set hk]
theorem SrchAt.put (h : SrchAt W ps pb bm r A G w) {D : DataW Unit} {n b : Nat} {d : DataW Unit} (hD : w.ownsMap Tryz.prog 3 unitElem bm n D) (hh : ∀ x : Int, Maps.has D (.int .i64 x) = decide (x ∈ ints A)) (hb : b ∉ A) (ho : w'.ownsMap Tryz.prog 3 unitElem bm (n + 1) (D.put (.int .i64 (b : Int)) d)) (hg : w.grownBy w' (some bm)) : SrchAt W ps pb bm r (A ++ [b]) G w' :=
 ⟨h.but.trans hg, (hg.block ps (Array.getElem?_eq_some_iff.1 h.blk).1 (fun e => h.ne (Option.some.inj e).symm)).trans h.blk, mapS_put h.map.1 hD.isMap hh hb ho, h.hps⟩
end
/-- where it goes on, when so many of a block's next have been looked at -/
structure Seen (bl : List Bx) (own : Nat → Nat → Nat) (r : Nat) (G js new : List Nat) : Prop where
 nd : (G ++ new).Nodup
 pass : ∀ j ∈ new, win bl own r j = none
 read : ∀ j ∈ js, win bl own r j ≠ some true
 all : ∀ j ∈ js, win bl own r j = none → j ∈ G ++ new
section
variable {bl : List Bx} {own : Nat → Nat → Nat} {r : Nat} {G js new : List Nat} {j : Nat}
theorem Seen.owned (h : Seen bl own r G js new) (h1 : win bl own r j ≠ some true) (h2 : win bl own r j ≠ none) : Seen bl own r G (js ++ [j]) new :=
 ⟨h.nd, h.pass, fun i hi => by
  rcases List.mem_append.1 hi with hi | hi
  ·exact h.read i hi
  ·rw [List.mem_singleton.1 hi]; exact h1, fun i hi hw => by
  rcases List.mem_append.1 hi with hi | hi
  ·exact h.all i hi hw
  ·rw [List.mem_singleton.1 hi] at hw; exact absurd hw h2⟩
theorem Seen.old (h : Seen bl own r G js new) (h1 : win bl own r j ≠ some true) (h2 : j ∈ G ++ new) : Seen bl own r G (js ++ [j]) new :=
 ⟨h.nd, h.pass, fun i hi => by
  rcases List.mem_append.1 hi with hi | hi
  ·exact h.read i hi
  ·rw [List.mem_singleton.1 hi]; exact h1, fun i hi hw => by
  rcases List.mem_append.1 hi with hi | hi
  ·exact h.all i hi hw
  ·rw [List.mem_singleton.1 hi]; exact h2⟩
theorem Seen.more (h : Seen bl own r G js new) (h1 : win bl own r j = none) (h2 : j ∉ G ++ new) : Seen bl own r G (js ++ [j]) (new ++ [j]) :=
 ⟨by
  rw [← List.append_assoc]
  exact List.nodup_append.2 ⟨h.nd, by simp, fun a ha c hc => by rw [List.mem_singleton.1 hc]; exact fun e => h2 (e ▸ ha)⟩, fun i hi => by
  rcases List.mem_append.1 hi with hi | hi
  ·exact h.pass i hi
  ·rw [List.mem_singleton.1 hi]; exact h1, fun i hi => by
  rcases List.mem_append.1 hi with hi | hi
  ·exact h.read i hi
  ·rw [List.mem_singleton.1 hi, h1]; simp, fun i hi hw => by
  rw [← List.append_assoc]
  rcases List.mem_append.1 hi with hi | hi
  ·exact List.mem_append.2 (.inl (h.all i hi hw))
  ·exact List.mem_append.2 (.inr hi)⟩
end
/-- a block has been looked at -/
def LookR (W : World) (ps pb bm r : Nat) (bl : List Bx) (own : Nat → Nat → Nat) (A G : List Nat) (k : Nat) (e : Ending) (w' : World) : Prop :=
 ∃ new, e = .returned (.bool (hitB bl own r k)) ∧ SrchAt W ps pb bm r (A ++ new) (G ++ new) w' ∧ (G ++ new).Nodup ∧ (∀ j ∈ new, j ∈ passT bl own r k) ∧ (hitB bl own r k = false → ∀ j ∈ passT bl own r k, j ∈ G ++ new)
theorem pass_of {bl : List Bx} {own : Nat → Nat → Nat} {r k : Nat} {new : List Nat} (h : ∀ j ∈ new, win bl own r j = none) (hs : ∀ j ∈ new, j ∈ succ bl k) : ∀ j ∈ new, j ∈ passT bl own r k := fun j hj => List.mem_filter.2 ⟨hs j hj, decide_eq_true (h j hj)⟩

set_option maxRecDepth 100000 in
set_option maxHeartbeats 16000000 in
theorem look_c (W : World) (ps pb bm N par : Nat) (bl : List Bx) (rb rc : Nat) (B : Body W pb bm N par bl rb rc) (hlow : Low bl) (hR : Regs N bl) (hN : N ≤ 1048576) (h16 : bl.length ≤ 16) (r : Nat) (hr : r < 1048576) (A G : List Nat) (hAG : ∀ j ∈ A, j ∈ G) (hG : G.Nodup) (hGl : ∀ j ∈ G, j < bl.length)
  (k : Nat) (hk : k < bl.length) (w : World) (h : SrchAt W ps pb bm r A G w) :
  Calls Tryz.prog 93 #[.pointer (some ⟨ps, 0, none⟩), .int .i64 (k : Int)] w (LookR W ps pb bm r bl (ownN par bl) A G k) := by
 obtain ⟨ra, rn, na, nn, pa, pn, b0, b1, b2, b3, b4, bs, bi, bp⟩ := B.each k hk
 have p1 := later (B.row w h.but)
 have p2 := later (B.anew w h.but)
 have d3 := later (b3 w h.but)
 have d4 := later (b4 w h.but)
 have s0 := later (h.cell (i := 0) rfl)
 have s1 := later (h.cell (i := 1) rfl)
 have hkl : (k : Int) < (bl.length : Int) := by omega
 have HH := hid h
 have HPL := hid (ph_low (b := k) hR hN (succ_lt hlow k hk))
 have HHS := hid (fun (wx : World) (hx : Aft w wx) => has_c _ (phL k bl (succ bl k)) (ph_low (b := k) hR hN (succ_lt hlow k hk)) (r : Int) (by omega) (by omega) wx (bp wx (h.but.go hx.below)))
 have HNI := hid (fun (wx : World) (hx : But bm W wx) => bi wx hx)
 have HB := hid B
 have HSL := hid (succ_lt hlow k hk)
 have H2 := hid (succ_len bl k)
 have HRD := hid (fun (j : Nat) (hj : j < bl.length) => rd_low (par := par) hR hN hj)
 have H16 := hid h16
 have HR := hid hr
 have HAG := hid hAG
 have HGL := hid hGl
 have hw := Aft.refl w
 have hwd := hw.drew
 have HNO : Hid (decide ((r : Int) ∈ phL k bl (succ bl k)) = true → hitB bl (ownN par bl) r k = true) := fun e => by
  obtain ⟨j, hj, hb⟩ := phL_mem.1 (of_decide_eq_true e)
  exact List.any_eq_true.2 ⟨j, hj, by rw [hb]; rfl⟩
 have HNP : Hid (decide ((r : Int) ∈ phL k bl (succ bl k)) = false → ∀ j ∈ succ bl k, byPhi bl r k j = false) := fun e j hj => by
  cases hb : byPhi bl r k j with
  | false => rfl
  | true => exact absurd (phL_mem.2 ⟨j, hj, hb⟩) (of_decide_eq_false e)
 have HST : Hid (Seen bl (ownN par bl) r G ((succ bl k).take 0) []) := ⟨by simpa using hG, by simp, by simp, by simp⟩
 clear h B hlow hR hN hr h16 hAG hG hGl b0 b1 b2 b3 b4 bs bi bp hk
 generalize decide ((r : Int) ∈ phL k bl (succ bl k)) = ph at *
 generalize (ofS (phL k bl (succ bl k))).length = pl at *
 go_enter Tryz.func93, Tryz.ntmps93
 go_wp2_with fail
 go_region_held3 (fun w' => Aft w w') (first | exact hwd.go hb1 | exact hwd)
  ((go_at_call 91; (with_reducible refine (HHS.out _ hwd).mono ?_); rintro e w1 ⟨rfl, hb1⟩))
 all_goals
  have h1 := hwd.go hb1
  have HS1 := hid (HH.out.go h1.below)
  clear HHS hb1 hwd hw HH
  cases ph with
  | true =>
   have HT := hid (HNO.out rfl)
   have HN := hid HST.out.nd
   clear HNO HNP HST
   go_wp2
   go_ret
   exact ⟨[], by rw [HT.out]; rfl, by rw [List.append_nil, List.append_nil]; exact HS1.out, HN.out, by simp, fun e => by rw [HT.out] at e; cases e⟩
  | false =>
  have HBF := hid (HNP.out rfl)
  clear HNO HNP
  obtain ⟨js, hjs⟩ : ∃ js, succ bl k = js := ⟨_, rfl⟩
  have HJS := hid hjs
  rw [hjs] at HBF HST HSL H2 HNI d3
  clear hjs
  go_wp2_with fail
  go_loopg [6, 7, 36] js.length (fun gk _ _ iv wr => ∃ (i : Nat) (new : List Nat), i + gk = js.length ∧ iv = .int .i64 i ∧ SrchAt W ps pb bm r (A ++ new) (G ++ new) wr ∧ Seen bl (ownN par bl) r G (js.take i) new ∧ (∀ j ∈ new, j ∈ js))
  case atStart => exact ⟨0, [], by omega, rfl, by rw [List.append_nil, List.append_nil]; exact HS1.out, HST.out, by simp⟩
  case round =>
   obtain ⟨i, new, hi, rfl, hs, hseen, hnew⟩ := hrel
   have HI := hid hi
   have HS := hid hs
   have HSE := hid hseen
   have HNW := hid hnew
   clear hi HST HS1 p1 p2 d3 d4 s0 s1 h1
   by_cases hlt : i < js.length
   ·have HLT := hid hlt
    obtain ⟨j, hj⟩ := some_at hlt
    have HJM := hid (List.mem_of_getElem? hj)
    have hjl := HSL.out j HJM.out
    obtain ⟨gn, gno, rfl, n0⟩ := nat_at (HNI.out wr hs.but) hj
    obtain ⟨ra', rn', na', nn', pa', pn', b0, b1, b2, b3, b4, bs, _, _⟩ := HB.out.each j hjl
    obtain ⟨th, hth⟩ : ∃ th, frB par bl j + (insAt bl j).length = th := ⟨_, rfl⟩
    have HTH := hid hth
    rw [hth] at b2
    clear hth
    have HTK : Hid (js.take (i + 1) = js.take i ++ [j]) := by
     obtain ⟨h1, h2⟩ := List.getElem?_eq_some_iff.1 hj
     show _ = _
     rw [List.take_succ_eq_append_getElem h1, h2]
    have c0 := b0 wr hs.but; have c1 := b1 wr hs.but; have c2 := b2 wr hs.but; have c3 := b3 wr hs.but; have c4 := b4 wr hs.but
    have q1 := HB.out.row wr hs.but
    have t0 := hs.cell (i := 0) rfl
    have hil : (i : Int) < (js.length : Int) := by omega
    have hib : i ≤ 9223372036854775806 := by have := H2.out; omega
    have hjn : (j : Int) < (bl.length : Int) := by omega
    have hj16 : (j : Int) < 16 := by have := H16.out; omega
    obtain ⟨w2, hw2⟩ : ∃ w2, w2 = wr.alloc (.cells #[.slice ra' (ofS (rdB par bl j)).length rn', .int .i64 ((frB par bl j : Nat) : Int), .int .i64 ((th : Nat) : Int), .slice na' (succ bl j).length nn', .slice pa' (ofS (phL j bl (succ bl j))).length pn'] 100) := ⟨_, rfl⟩
    obtain ⟨bx, hbx⟩ : ∃ bx, bx = wr.heap.size := ⟨_, rfl⟩
    have hb2 : Below wr.heap.size wr w2 := by rw [hw2]; exact alloc_below _ _
    have k2 : w2.heap[bx]? = some (.cells #[.slice ra' (ofS (rdB par bl j)).length rn', .int .i64 ((frB par bl j : Nat) : Int), .int .i64 ((th : Nat) : Int), .slice na' (succ bl j).length nn', .slice pa' (ofS (phL j bl (succ bl j))).length pn'] 100 (0, 0)) := by rw [hw2, hbx]; exact TyD.alloc_new _ _
    have hs2 := hs.go hb2
    have m0 := later_cells k2 0 _ rfl; have m1 := later_cells k2 1 _ rfl; have m2 := later_cells k2 2 _ rfl
    have s0 := later (hs2.cell (i := 0) rfl)
    have s1 := later (hs2.cell (i := 1) rfl)
    have sb := later (hs2.cell (i := 2 + j) (by rw [show 2 + j = j + 1 + 1 by omega, List.getElem?_cons_succ, List.getElem?_cons_succ]; exact bg_at (by have := H16.out; omega)))
    have p2 := later (HB.out.anew w2 hs2.but)
    have HRS := hid (fun (wx : World) (hx : Aft w2 wx) => reads_c _ (rdB par bl j) (HRD.out j hjl) ((frB par bl j : Nat) : Int) ((th : Nat) : Int) (r : Int) (by omega) (by have := HR.out; omega) wx (bs wx (hs2.but.go hx.below)))
    have HS2 := hid hs2
    have HW2 := hid hw2
    have HBX := hid hbx
    clear b0 b1 b2 b3 b4 bs hs hs2 hw2 hbx hb2 k2 hlt hj hseen hnew
    go_upto_region 7 with fail
    rw [← HW2.out, ← HBX.out]
    have hw := Aft.refl w2
    have hwd := hw.drew
    clear c0 c1 c2 c3 c4 n0 q1 t0
    have HWT : Hid (decide ((r : Int) ∈ rdB par bl j) = true → win bl (ownN par bl) r j = some true) := fun e => win_true.1 (of_decide_eq_true e)
    have HWF : Hid (decide ((r : Int) ∈ rdB par bl j) = false → win bl (ownN par bl) r j ≠ some true) := fun e h => absurd (win_true.2 h) (of_decide_eq_false e)
    have HWN : Hid (decide ((r : Int) ∈ rdB par bl j) = false → (win bl (ownN par bl) r j = none ↔ ownd (frB par bl j) (insAt bl j).length (r : Int) = false)) := fun e => by rw [win_none]; exact and_iff_right (of_decide_eq_false e)
    have HOW := hid (fun (wx : World) => owns_c ra' (ofS (rdB par bl j)).length rn' ((frB par bl j : Nat) : Int) ((th : Nat) : Int) (r : Int) wx)
    have HOD : Hid (decide (((frB par bl j : Nat) : Int) ≤ (r : Int) ∧ (r : Int) < ((th : Nat) : Int)) = ownd (frB par bl j) (insAt bl j).length (r : Int)) := by show _ = _; rw [← HTH.out]; rfl
    rw [HOD.out] at HOW
    clear HOD HTH
    generalize decide ((r : Int) ∈ rdB par bl j) = rd at *
    generalize ownd (frB par bl j) (insAt bl j).length (r : Int) = ow at *
    generalize (ofS (rdB par bl j)).length = rl at *
    generalize (ofS (phL j bl (succ bl j))).length = pl2 at *
    generalize (succ bl j).length = sl2 at *
    generalize frB par bl j = frj at *
    go_region_held3 (fun w' => Aft w2 w') (first | exact hwd.go hb1 | exact hwd)
     ((go_at_call 51; (with_reducible refine (HRS.out _ hwd).mono ?_); rintro e w1 ⟨rfl, hb1⟩))
    all_goals
     have h1 := hwd.go hb1
     have HS1 := hid (HS2.out.go h1.below)
     clear HRS hb1 hwd hw HS2
     cases rd with
     | true =>
      have HT : Hid (hitB bl (ownN par bl) r k = true) := by
       have h1 := HWT.out rfl
       show _ = _
       refine List.any_eq_true.2 ⟨j, by rw [HJS.out]; exact HJM.out, ?_⟩
       rw [h1]
       simp
      clear HWT HWF HWN HOW
      go_wp2
      go_ret
      exact ⟨new, by rw [HT.out]; rfl, HS1.out, HSE.out.nd, pass_of HSE.out.pass (fun j hj => by rw [HJS.out]; exact HNW.out j hj), fun e => by rw [HT.out] at e; cases e⟩
     | false =>
      have HW1 := hid (HWF.out rfl)
      have HW0 := hid (HWN.out rfl)
      have hd := h1.drew
      clear HWT HWF HWN
      go_upto_region 9 with fail
      cases ow with
      | true =>
       have HSN := hid (HSE.out.owned HW1.out (fun e => by rw [HW0.out] at e; cases e))
       clear HW1 HW0
       refine wp_region_noPanic ?_
       refine wp_region_Z (S := (fun w' => Aft w2 w')) (Z := []) (by kernel_rfl) ?_ (fun hHeld => ?_)
       ·exact hd
       refine zP 0 rfl ?_
       refine zT 1 rfl ?_
       refine zP 2 rfl ?_
       refine zP 3 rfl ?_
       refine zP 4 rfl ?_
       refine zT 5 rfl ?_
       refine zC 6 rfl (fun K hK => ?_)
       go_simp
       (go_at_call 52; (with_reducible refine (HOW.out _).mono ?_); rintro e wo ⟨rfl, hwo⟩)
       have ho : Aft w2 wo := by rw [hwo]; exact hd.alloc _
       have HS3 : Hid (SrchAt W ps pb bm r (A ++ new) (G ++ new) wo) := by
        show SrchAt _ _ _ _ _ _ _ _
        rw [hwo]
        exact (HS1.out.go ((Below.refl _ _).drew)).go (alloc_below _ _)
       clear hwo
       refine hK.out _ _ ?_ (fun hHeld => ?_)
       ·exact ho
       clear hK K
       refine zP 7 rfl ?_
       refine zP 8 rfl ?_
       refine zU 9 rfl ?_
       refine zU 10 rfl ?_
       refine zU 11 rfl ?_
       refine zU 12 rfl ?_
       refine zU 13 rfl ?_
       refine zU 14 rfl ?_
       refine zU 15 rfl ?_
       refine zP 16 rfl ?_
       refine wpAnyZ_done (by kernel_rfl) ?_ _
       refine NoPanic.normal ?_
       clear hd ho h1
       go_wp2
       go_roundg (gk - 1)
       case measure => have := HI.out; have := HLT.out; omega
       case rel => exact ⟨i + 1, new, by have := HI.out; have := HLT.out; omega, by go_num, HS3.out, by rw [HTK.out]; exact HSN.out, HNW.out⟩
      | false =>
       have HWZ := hid (HW0.out.2 rfl)
       obtain ⟨bj, hbj⟩ : ∃ bj, decide (j ∈ G ++ new) = bj := ⟨_, rfl⟩
       rw [hbj] at sb
       have HBJ := hid hbj
       clear hbj HW0
       refine wp_region_noPanic ?_
       refine wp_region_Z (S := (fun w' => Aft w2 w')) (Z := []) (by kernel_rfl) ?_ (fun hHeld => ?_)
       ·exact hd
       refine zP 0 rfl ?_
       refine zT 1 rfl ?_
       refine zP 2 rfl ?_
       refine zP 3 rfl ?_
       refine zP 4 rfl ?_
       refine zT 5 rfl ?_
       refine zC 6 rfl (fun K hK => ?_)
       go_simp
       (go_at_call 52; (with_reducible refine (HOW.out _).mono ?_); rintro e wo ⟨rfl, hwo⟩)
       have ho : Aft w2 wo := by rw [hwo]; exact hd.alloc _
       have HS3 : Hid (SrchAt W ps pb bm r (A ++ new) (G ++ new) wo) := by
        show SrchAt _ _ _ _ _ _ _ _
        rw [hwo]
        exact (HS1.out.go ((Below.refl _ _).drew)).go (alloc_below _ _)
       clear hwo
       refine hK.out _ _ ?_ (fun hHeld => ?_)
       ·exact ho
       clear hK K
       refine zP 7 rfl ?_
       refine zP 8 rfl ?_
       refine zP 9 rfl ?_
       refine zP 10 rfl ?_
       refine zP 11 rfl ?_
       refine zP 12 rfl ?_
       refine zP 13 rfl ?_
       refine zT 14 rfl ?_
       refine zP 15 rfl ?_
       refine zP 16 rfl ?_
       refine wpAnyZ_done (by kernel_rfl) ?_ _
       refine NoPanic.normal ?_
       cases bj with
       | true =>
        have HSN := hid (HSE.out.old HW1.out (of_decide_eq_true HBJ.out))
        clear hd ho h1 HW1 HWZ
        go_wp2
        go_roundg (gk - 1)
        case measure => have := HI.out; have := HLT.out; omega
        case rel => exact ⟨i + 1, new, by have := HI.out; have := HLT.out; omega, by go_num, HS3.out, by rw [HTK.out]; exact HSN.out, HNW.out⟩
       | false =>
        have HNI := hid (of_decide_eq_false HBJ.out)
        have HSN := hid (HSE.out.more HWZ.out HNI.out)
        have hs4 := HS3.out.begin (k := j) (by have := H16.out; omega)
        have y0 := sb wo ho
        have y1 := HS3.out.frozen (2 + j)
        obtain ⟨w4, hw4⟩ : ∃ w4, w4 = wo.setCell ⟨ps, 2 + j, none⟩ (.bool true) := ⟨_, rfl⟩
        rw [← hw4] at hs4
        have HW4 := hid hw4
        have x0 := hs4.cell (i := 0) rfl
        have x2 := HB.out.anew w4 hs4.but
        obtain ⟨hnd, D, hown, hh⟩ := hs4.map
        have HPUT := hid (fun (w5 : World) (d : DataW Unit) ho hg => hs4.put (w' := w5) (b := j) (d := d) hown hh (fun e => HNI.out (by
         rcases List.mem_append.1 e with e | e
         ·exact List.mem_append.2 (.inl (HAG.out j e))
         ·exact List.mem_append.2 (.inr e))) ho hg)
        have hml : Maps.size D < maxLen := by
         have h1 := LiE.size_of hnd hown hh
         have h2 : (A ++ new).length ≤ 16 := by
          have h3 := FwM.nodup_len 16 hnd (fun v hv => by
           have h4 := H16.out
           rcases List.mem_append.1 hv with e | e
           ·have := HGL.out v (HAG.out v e); omega
           ·have := HSL.out v (HNW.out v e); omega)
          exact h3
         unfold maxLen
         omega
        have hkey := key_int (n := j) (by have := H16.out; omega)
        clear hd ho h1 HW1 HWZ hs4 hw4 HS3 sb hh hnd
        go_upto_region 11 with fail
        rw [← HW4.out]
        go_wp2_with (at_mapUpdate; refine wpList_mapUpdate_own _ rfl _ _ _ 102 rfl 3 215 law_int Tryz.underlying102 (unitElem (H := Unit)) bm (Maps.size D) D rfl hown hml _ _ _ rfl rfl hkey _ [] unitElem_mk ?_)
        intro w5 hown5 hgrow5
        have HS5 := hid (HPUT.out w5 _ hown5 hgrow5)
        clear HPUT hown hown5 hgrow5 hkey hml
        go_wp2
        go_roundg (gk - 1)
        case measure => have := HI.out; have := HLT.out; omega
        case rel =>
         refine ⟨i + 1, new ++ [j], by have := HI.out; have := HLT.out; omega, by go_num, by rw [← List.append_assoc, ← List.append_assoc]; exact HS5.out, by rw [HTK.out]; exact HSN.out, fun c hc => ?_⟩
         rcases List.mem_append.1 hc with hc | hc
         ·exact HNW.out c hc
         ·rw [List.mem_singleton.1 hc]; exact HJM.out
   ·obtain rfl : i = js.length := by have := HI.out; omega
    have HF : Hid (hitB bl (ownN par bl) r k = false) := by
     show _ = _
     cases hb : hitB bl (ownN par bl) r k with
     | false => rfl
     | true =>
      obtain ⟨c, hc, hv⟩ := List.any_eq_true.1 hb
      rw [HJS.out] at hc
      rw [HBF.out c hc, Bool.false_or] at hv
      exact absurd (of_decide_eq_true hv) (HSE.out.read c (by rw [List.take_length]; exact hc))
    clear hs hseen hnew hlt
    go_wp2
    go_ret
    refine ⟨new, by rw [HF.out]; rfl, HS.out, HSE.out.nd, pass_of HSE.out.pass (fun j hj => by rw [HJS.out]; exact HNW.out j hj), fun _ c hc => ?_⟩
    obtain ⟨h1, h2⟩ := List.mem_filter.1 hc
    rw [HJS.out] at h1
    exact HSE.out.all c (by rw [List.take_length]; exact h1) (of_decide_eq_true h2)
end Go.Proofs.YtpejpnffcepdlaaGreatDoor.LiK
