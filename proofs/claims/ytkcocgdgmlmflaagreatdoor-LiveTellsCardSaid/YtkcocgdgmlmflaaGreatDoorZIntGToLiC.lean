/- A list's cells, by what stands at a place. A block's and an instruction's cells, by insAt and endAt, in every world behind. A walk over fescueref11.numbers. Walk over shape.Regs. Walks over flow.next, find, Next. Walk over flow.Next, for seats without flow's walks. The place of a register: plain facts. The register of a place: plain facts. What layer 10 answers of a program, in plain: errors, rulers, and what is set. What layer 11 answers of a program, in plain: the registers that live at a place, and at a block's end. What is asked of the package live: its functions' contracts, as propositions. Plain facts: what the reference's Lives and atEnd do to a row of bools, step by step; which registers they meet. LiveEnd in plain: the numbers that a block's end is asked for, one list behind the other. Plain facts for LiveWays: ways on, block by block, to where a register is read. What the package live does, in plain: what a block reads from a place on, what phis read at its end, the search for a way. Walks over live.has, live.set, (live.part).reads and (live.part).owns: sets of registers in memory. Walk over live.cut's closure: what is read, ahead of its own instruction. Walk over live.cut: what a block reads from a place on. -/
import Derived.Test.YtkcocgdgmlmflaaGreatDoorZIntOToAft
import Derived.Test.YtkcocgdgmlmflaaGreatDoorZShIToFwK
import Derived.Test.YtkcocgdgmlmflaaGreatDoorZTyBToTyRE
import Derived.Test.YtkcocgdgmlmflaaGreatDoorZFwRToTyRT
import Derived.Test.YtkcocgdgmlmflaaGreatDoorZSetInToBitHas
import Derived.Test.YtkcocgdgmlmflaaGreatDoorZFresh
import Derived.RangeFuncBox
import Derived.Deep.LoopGhost
import Derived.Test.YtkcocgdgmlmflaaGreatDoorZShBToShW
import Derived.Test.YtkcocgdgmlmflaaGreatDoorZTyMToShN
namespace Go.Proofs.YtkcocgdgmlmflaaGreatDoor.IntG
open Go.RowKit Go.Lib SetP IntO TyM TyP FwQ

theorem int_at {w : World} {ao : Option Addr} {n cap i : Nat} {l : List Int} {c : Int} (h : IntsAt w (.slice ao n cap) l) (hc : l[i]? = some c) : ∃ b off, ao = some ⟨b, off, none⟩ ∧ w.cell? ⟨b, off + i, none⟩ = some (.int .i64 c) := by
  obtain ⟨hi, rfl⟩ := List.getElem?_eq_some_iff.1 hc
  obtain ⟨b, off, rfl, _, h2⟩ := TyP.ints_at h i hi
  exact ⟨b, off, rfl, h2⟩
theorem nat_at {w : World} {ao : Option Addr} {n cap i c : Nat} {l : List Nat} (h : IntsAt w (.slice ao n cap) (ints l)) (hc : l[i]? = some c) : ∃ b off, ao = some ⟨b, off, none⟩ ∧ w.cell? ⟨b, off + i, none⟩ = some (.int .i64 (c : Int)) :=
  int_at h (by rw [nums_get, hc]; rfl)
theorem some_at {α : Type} {l : List α} {i : Nat} (h : i < l.length) : ∃ c, l[i]? = some c := ⟨_, List.getElem?_eq_getElem h⟩
end Go.Proofs.YtkcocgdgmlmflaaGreatDoor.IntG
namespace Go.Proofs.YtkcocgdgmlmflaaGreatDoor.BlkG
open Go.RowKit Go.Lib SetP IntO TyM TyP ShM ShP Aft FwP FwQ LvM IntG

theorem blk_ins {W : World} {ao : Option Addr} {n cap : Nat} {l : List Bx} (h : BlksAt W (.slice ao n cap) l) {b : Nat} (hb : b < l.length) : ∃ g off xa xc, ao = some ⟨g, off, none⟩ ∧ (∀ w', Aft W w' → w'.cell? ⟨g, off + b * 5, none⟩ = some (.slice xa (insAt l b).length xc)) ∧ InsAt W (.slice xa (insAt l b).length xc) (insAt l b) ∧
    (∀ w', Aft W w' → w'.cell? ⟨g, off + b * 5 + 1, none⟩ = some (.int .u8 (endAt l b).kind)) ∧ (∀ w', Aft W w' → w'.cell? ⟨g, off + b * 5 + 2, none⟩ = some (.int .i64 (endAt l b).a)) ∧ (∀ w', Aft W w' → w'.cell? ⟨g, off + b * 5 + 3, none⟩ = some (.int .i64 (endAt l b).to)) ∧ (∀ w', Aft W w' → w'.cell? ⟨g, off + b * 5 + 4, none⟩ = some (.int .i64 (endAt l b).els)) := by
  obtain ⟨g, off, rfl, hlt, vi, c0, c1, c2, c3, c4, hins⟩ := h.at b hb
  have he : endAt l b = l[b].en := by unfold endAt; rw [List.getElem?_eq_getElem hb]; rfl
  have hi : insAt l b = l[b].ins := by unfold insAt; rw [List.getElem?_eq_getElem hb]; rfl
  obtain ⟨ia, ic, rfl, _⟩ := hins.slice
  rw [he, hi]
  exact ⟨g, off, ia, ic, rfl, later c0, hins, later c1, later c2, later c3, later c4⟩
/-- an instruction: its cells, its lists -/
theorem ins_later {W : World} {ao : Option Addr} {n cap : Nat} {xs : List Ix} (h : InsAt W (.slice ao n cap) xs) {k : Nat} {x : Ix} (hk : xs[k]? = some x) : ∃ g off aa ac fa fc, ao = some ⟨g, off, none⟩ ∧ (∀ w', Aft W w' → w'.cell? ⟨g, off + k * 7, none⟩ = some (.int .u8 x.op)) ∧ (∀ w', Aft W w' → w'.cell? ⟨g, off + k * 7 + 1, none⟩ = some (.int .i64 x.typ)) ∧ (∀ w', Aft W w' → w'.cell? ⟨g, off + k * 7 + 2, none⟩ = some (.int .i64 x.a)) ∧
    (∀ w', Aft W w' → w'.cell? ⟨g, off + k * 7 + 3, none⟩ = some (.int .i64 x.b)) ∧ (∀ w', Aft W w' → w'.cell? ⟨g, off + k * 7 + 4, none⟩ = some (.int .i64 x.n)) ∧ (∀ w', Aft W w' → w'.cell? ⟨g, off + k * 7 + 5, none⟩ = some (.slice aa x.args.length ac)) ∧ (∀ w', Aft W w' → w'.cell? ⟨g, off + k * 7 + 6, none⟩ = some (.slice fa x.frm.length fc)) ∧
    (∀ w', Aft W w' → IntsAt w' (.slice aa x.args.length ac) x.args) ∧ (∀ w', Aft W w' → IntsAt w' (.slice fa x.frm.length fc) x.frm) := by
  obtain ⟨hi, rfl⟩ := List.getElem?_eq_some_iff.1 hk
  obtain ⟨g, off, rfl, _, ya, yf, z0, z1, z2, z3, z4, z5, z6, hya, hyf⟩ := h.at k hi
  obtain ⟨aa, ac, rfl, _⟩ := ints_slice hya
  obtain ⟨fa, fc, rfl, _⟩ := ints_slice hyf
  exact ⟨g, off, aa, ac, fa, fc, rfl, later z0, later z1, later z2, later z3, later z4, later z5, later z6, fun w' h => hya.below h.below, fun w' h => hyf.below h.below⟩
end Go.Proofs.YtkcocgdgmlmflaaGreatDoor.BlkG
namespace Go.Proofs.YtkcocgdgmlmflaaGreatDoor.LuN
open Go.RowKit Go.Lib RwO SetP IntO TyM TyP TyB TyC ShM ShP ShA ShB ShC ShE Aft FwM FwC FwP FwQ FwR FvA FvE LuB

theorem vec_up (N : Nat) (g : Nat → Bool) : upN (fun i => (vec N g).getD i false) N = (List.range N).filter g := by
  unfold upN
  refine List.filter_congr fun i hi => ?_
  rw [List.getD_eq_getElem?_getD, vec_get (List.mem_range.1 hi)]
  rfl

set_option maxRecDepth 100000 in
set_option maxHeartbeats 8000000 in
theorem numbers_any (bs : List Bool) (v : Value) (w1 : World) (hv : BoolsAt w1 v bs) (hlen : bs.length ≤ 100000) :
    Calls Tryz.prog 23 #[v] w1 (LstR (ints (upN (fun i => bs.getD i false) bs.length)) w1) := by
  have HROW := hid hv
  have HLEN := hid hlen
  obtain ⟨ao, cap, rfl, hll⟩ := bools_slice hv
  have HANS : Hid (∃ ans, ans = upN (fun i => bs.getD i false) bs.length) := ⟨_, rfl⟩
  obtain ⟨ans, hans⟩ := HANS.out
  rw [← hans]
  have HRL := hid hans
  clear hv hlen hans HANS
  go_enter Tryz.func23, Tryz.ntmps23
  go_wp2
  go_loopg [3, 4] bs.length (fun gk u i wr => ∃ k : Nat, k + gk = bs.length ∧ i = .int .i64 k ∧ wr.ownsRow w1.heap.size 3 1 u (upN (fun i => bs.getD i false) k).length (intVals (ints (upN (fun i => bs.getD i false) k))) ∧ Below w1.heap.size w1 wr)
  case atStart => exact ⟨0, by omega, rfl, World.ownsRow_nil _ _ _ _, Below.refl _ _⟩
  case round =>
    obtain ⟨k, hk, rfl, hown, hb⟩ := hrel
    have HK := hid hk
    have HLN := hid (upN_len (fun i => bs.getD i false) k)
    have HOWN := hid hown
    have HB := hid hb
    obtain ⟨ua, un, rfl⟩ := own_slice hown
    by_cases hlt : k < bs.length
    · have HLT := hid hlt
      obtain ⟨b2, o2, rfl, _, hy⟩ := bools_at (HROW.out.below hb) k hlt
      have hhas : bs.getD k false = bs[k] := by rw [List.getD_eq_getElem?_getD, List.getElem?_eq_getElem hlt]; rfl
      have HYES := hid (upN_yes (q := fun i => bs.getD i false) (k := k))
      have HNO := hid (upN_no (q := fun i => bs.getD i false) (k := k))
      have hkl : (k : Int) < (bs.length : Int) := by omega
      clear hk hown hb
      generalize bs[k] = b at *
      cases b with
      | true =>
        have HA := hid (HYES.out hhas)
        clear HYES HNO hhas
        generalize upN (fun i => bs.getD i false) k = up at *
        have HO3 := hid (HOWN.out.alloc (.cells #[.int .i64 k] 3))
        have HI3 := hid (ints_one (w := wr.alloc (.cells #[.int .i64 k] 3)) (b := wr.heap.size) (n := k) (cell_new _ _ _ _ rfl) (size_new _ _ _ rfl))
        have hsz : w1.heap.size ≤ (wr.alloc (.cells #[.int .i64 k] 3)).heap.size := by have := HB.out.size; simp only [World.size_alloc]; omega
        have hxs : up.length ≤ 100000 := by have := HLN.out; have := HLEN.out; have := HLT.out; omega
        go_wp2_with (at_builtin; refine wpList_append_ints rfl (.tmp 15) (.tmp 17) rfl w1.heap.size (.slice ua up.length un) rfl up.length (intVals (ints up)) HO3.out hxs (.slice (some ⟨wr.heap.size, 0, none⟩) 1 1) [(k : Int)] rfl HI3.out (by simp) hsz ?_)
        intro v' w' hown' hgr
        have HB4 := hid (own_grown (HB.out.alloc (by have := HB.out.size; omega) _) HO3.out hgr hsz)
        have HNX : Hid (w'.ownsRow w1.heap.size 3 1 v' (up ++ [k]).length (intVals (ints (up ++ [k])))) := by
          show World.ownsRow _ _ _ _ _ _ _
          rw [ints_append, intVals_append, List.length_append]
          exact hown'
        obtain ⟨va, vn, rfl⟩ := own_slice hown'
        clear hown' hgr HI3 HO3 hsz
        go_wp2
        go_roundg (gk - 1)
        case measure => have := HK.out; have := HLT.out; omega
        case rel => exact ⟨k + 1, by have := HK.out; have := HLT.out; omega, by go_num, by rw [HA.out]; have := HNX.out; rw [List.length_append] at this ⊢; exact this, HB4.out⟩
      | false =>
        have HA := hid (HNO.out hhas)
        clear HYES HNO hhas
        go_wp2
        go_roundg (gk - 1)
        case measure => have := HK.out; have := HLT.out; omega
        case rel => exact ⟨k + 1, by have := HK.out; have := HLT.out; omega, by go_num, by rw [HA.out]; exact HOWN.out, HB.out⟩
    · obtain rfl : k = bs.length := by omega
      rw [← HRL.out] at HOWN HLN ⊢
      have HI := hid (intsAt_of_owns (l := ints ans) HOWN.out (by rw [ints_length]; have := HLN.out; have := HLEN.out; omega))
      clear hk hown
      generalize ans.length = m at *
      generalize bs.length = n at *
      go_wp2
      go_ret
      exact ⟨_, rfl, HI.out, HB.out⟩
/-- of bools by a function -/
theorem numbers_calls (N : Nat) (g : Nat → Bool) (v : Value) (w : World) (hv : BoolsAt w v (vec N g)) (hN : N ≤ 100000) :
    Calls Tryz.prog 23 #[v] w (LstR (ints ((List.range N).filter g)) w) := by
  have := numbers_any (vec N g) v w hv (by rw [vec_len]; exact hN)
  rwa [vec_len, vec_up] at this
end Go.Proofs.YtkcocgdgmlmflaaGreatDoor.LuN
namespace Go.Proofs.YtkcocgdgmlmflaaGreatDoor.ShJ
open Go.RowKit Go.Lib SetP IntO TyM TyP TyB TyC ShM ShP ShA ShB ShC ShE ShQ ShF ShG ShH ShI

set_option maxRecDepth 100000 in
set_option maxHeartbeats 8000000 in
theorem regsP_calls (p : Px) (f : Int) (v : Value) (w : World) (hp : PrAt w v p) (htab : Tab w) (hs : Small p) (hok : POk p) :
    Calls Tryz.prog 29 #[v, .int .i64 f] w (TwoR (if findP p f = 0 then (cntP p f : Int) else 0) (findP p f) w) := by
  have hp0 := hp
  obtain ⟨vt, vf, rfl, ht, hf⟩ := hp
  have hb0 := alloc_below w (.cells #[vt, vf] 25)
  have HC := hid (find_calls p f _ _ (hp0.below hb0) (htab.on hb0) hs hok)
  have HB0 := hid hb0
  by_cases hz : findP p f = 0
  rotate_left
  · rw [if_neg hz]
    have e0 : (findP p f != 0) = true := by simpa using hz
    obtain ⟨ta, tc, rfl⟩ := ht.slice
    obtain ⟨fa, fc, rfl, hfl⟩ := hf.slice
    clear ht hf htab hs hok hp0 hb0
    generalize findP p f = fe at *
    generalize p.types.length = n1 at *
    generalize p.funcs.length = n2 at *
    go_enter Tryz.func29, Tryz.ntmps29
    go_wp2_with fail
    refine HC.out.mono ?_
    rintro e w1 ⟨rfl, hb1⟩
    have hbe := HB0.out.trans (hb1.mono HB0.out.size)
    clear HC hb1 hz
    go_wp2
    go_ret2
    exact ⟨rfl, hbe⟩
  rw [if_pos hz]
  rw [hz] at HC ⊢
  obtain ⟨k, x, h1⟩ := has1 hz
  rw [cnt_at h1]
  obtain ⟨fb, foff, fcap, vb, rfl, hfb, c0, c1, hbl⟩ := fn_at hf h1
  have hle : parOf p.types x.sig + manyB x.blocks ≤ 1000000 := by
    have := par_le hs.parts h1.sig0 h1.sig1
    have := h1.many
    omega
  have HR := hid (fun wx (hx : Below w.heap.size w wx) => regs_calls p.types x vt (.slice (some ⟨fb, foff, none⟩) p.funcs.length fcap) vb wx (ht.below hx) ⟨_, _, _, rfl⟩ h1.sig0 h1.sig1 (hbl.below blkStays hx) hle)
  obtain ⟨ta, tc, rfl⟩ := ht.slice
  obtain ⟨ba, bc, rfl, _⟩ := hbl.slice
  have hkl : (k : Int) < p.funcs.length := by have := h1.lt; omega
  have hk0 : (0 : Int) ≤ k := by omega
  have hke := h1.eq
  have HLT := hid hfb
  have HC0 := hid c0
  have HC1 := hid c1
  clear ht hf htab hs hok hp0 hb0 hz hbl hle h1 c0 c1
  subst hke
  generalize parOf p.types x.sig + manyB x.blocks = cnt at *
  obtain ⟨sg, bl⟩ := x
  simp only at *
  generalize p.types.length = n1 at *
  generalize p.funcs.length = n2 at *
  generalize bl.length = n4 at *
  go_enter Tryz.func29, Tryz.ntmps29
  go_wp2_with fail
  refine HC.out.mono ?_
  rintro e w3 ⟨rfl, hb1⟩
  have hbe := HB0.out.trans (hb1.mono HB0.out.size)
  obtain ⟨f1, _, s1, _⟩ := copyF (alloc_new _ _) hb1 (by simp only [World.size_alloc]; omega)
  have p0 := f1 0 (by simp); have p1 := f1 1 (by simp)
  simp only [List.getElem_toArray, List.getElem_cons_succ, List.getElem_cons_zero] at p0 p1
  have d0 := (hbe.cell (p := ⟨fb, foff + k * 2, none⟩) HLT.out).trans HC0.out
  have d1 := (hbe.cell (p := ⟨fb, foff + k * 2 + 1, none⟩) HLT.out).trans HC1.out
  have s2 := Nat.lt_of_lt_of_le HLT.out hbe.size
  clear HC hb1 f1
  have HBE := hid hbe
  have HBd : Hid (Below w.heap.size w w3.drew) := hbe.drew
  clear hbe
  go_wp2_with fail
  have HOS := hid (old_start w3)
  generalize hn3 : w3.heap.size = n3 at *
  have HN3 := hid hn3
  clear hn3
  go_region_held3 (fun w' => n3 ≤ w'.heap.size ∧ ∀ b o, b < n3 → w'.cell? ⟨b, o, none⟩ = w3.cell? ⟨b, o, none⟩)
    (first | with_reducible exact HOS.out | with_reducible exact old_call (by assumption) (by assumption))
    (first | (go_at_call 47; (with_reducible refine (HR.out w3.drew HBd.out).mono ?_); rintro e w4 ⟨rfl, hb4⟩))
  all_goals
    have hbe := HBd.out.trans (hb4.mono HBd.out.size)
    go_wp2
    go_ret2
    exact ⟨rfl, hbe⟩
end Go.Proofs.YtkcocgdgmlmflaaGreatDoor.ShJ
namespace Go.Proofs.YtkcocgdgmlmflaaGreatDoor.FkN
open Go.RowKit Go.Lib SetP IntO TyM TyP TyB TyC ShM ShN ShP ShA ShB ShC ShE ShH ShI ShJ Aft FwM FwC FwP FwQ FwR FwK

/-- ends that are one of the three -/
def Kinds (l : List Bx) : Prop := ∀ i, i < l.length → (endAt l i).kind = 1 ∨ (endAt l i).kind = 2 ∨ (endAt l i).kind = 3
theorem kinds_of {p : Px} {f : Fx} (h : chkP p = 0) (ho : POk p) (hf : f ∈ p.funcs) : Kinds f.blocks := by
  unfold chkP at h
  split at h
  · rename_i hc; exact absurd h hc
  split at h
  · exact absurd h (by decide)
  split at h
  · rename_i hall
    have hmf := List.all_eq_true.1 hall f hf
    unfold mayF at hmf
    split at hmf
    · cases hmf
    split at hmf
    · cases hmf
    split at hmf
    · cases hmf
    intro i hi
    have hm : f.blocks[i] ∈ f.blocks := List.getElem_mem hi
    have hbb := List.all_eq_true.1 hmf _ hm
    unfold mayBl at hbb
    simp only [Bool.and_eq_true] at hbb
    have he := hbb.1
    rw [mayE_eq (ho f hf _ hm).1.1] at he
    have hea : endAt f.blocks i = (f.blocks[i]).en := by unfold endAt; rw [List.getElem?_eq_getElem hi]; rfl
    rw [hea]
    unfold mayER at he
    split at he
    · exact .inl ‹_›
    split at he
    · exact .inr (.inl ‹_›)
    split at he
    · exact .inr (.inr ‹_›)
    · cases he
  · exact absurd h (by decide)
theorem kinds_fn {p : Px} {f : Int} (ho : POk p) (h : findP p f = 0) : Kinds (blsP p f) := by
  obtain ⟨k, x, h1⟩ := has1 h
  rw [fn_blocks h1]
  exact kinds_of (find_zero h).1 ho (List.mem_of_getElem? h1.at_)

/-- a list of numbers that the call owns -/
def LstRO (l : List Int) (w : World) (e : Ending) (w' : World) : Prop := ∃ u, e = .returned u ∧ w'.ownsRow w.heap.size 3 1 u l.length (intVals l) ∧ Below w.heap.size w w'
set_option maxRecDepth 100000 in
set_option maxHeartbeats 4000000 in
theorem next_own (x : Ex) (ia : Option Addr) (im ic : Nat) (w : World) (hk : x.kind = 1 ∨ x.kind = 2 ∨ x.kind = 3) :
    Calls Tryz.prog 49 #[.agg #[.slice ia im ic, .int .u8 x.kind, .int .i64 x.a, .int .i64 x.to, .int .i64 x.els]] w (LstRO (toE x) w) := by
  obtain ⟨kd, a, tt, els⟩ := x
  have HD : Hid (toE ⟨kd, a, tt, els⟩ = if kd = 1 ∨ (kd = 2 ∧ tt = els) then [tt] else if kd = 2 then [tt, els] else []) := rfl
  generalize toE ⟨kd, a, tt, els⟩ = ans at *
  rcases hk with hk | hk | hk
  · simp only at hk
    subst hk
    rw [if_pos (.inl rfl)] at HD
    have HI := hid (owns_lit_at w ((w.alloc (.cells #[.slice ia im ic, .int .u8 1, .int .i64 a, .int .i64 tt, .int .i64 els] 47)).alloc (.cells #[.int .u8 1, .int .i64 a, .int .i64 tt, .int .i64 els] 45)) [tt] (w.heap.size + 1 + 1) 1 #[.int .i64 tt] (by simp only [World.size_alloc]; omega) (by simp only [World.size_alloc]) rfl rfl (by simp))
    have HB : Hid (Below w.heap.size w (((w.alloc (.cells #[.slice ia im ic, .int .u8 1, .int .i64 a, .int .i64 tt, .int .i64 els] 47)).alloc (.cells #[.int .u8 1, .int .i64 a, .int .i64 tt, .int .i64 els] 45)).alloc (.cells #[.int .i64 tt] 3))) := (((Below.refl _ _).alloc (Nat.le_refl _) _).alloc (by simp) _).alloc (by simp only [World.size_alloc]; omega) _
    go_enter Tryz.func49, Tryz.ntmps49
    go_wp2
    go_ret
    exact ⟨_, rfl, by rw [HD.out]; exact HI.out, HB.out⟩
  · simp only at hk
    subst hk
    by_cases h3 : tt = els
    · rw [if_pos (.inr ⟨rfl, h3⟩)] at HD
      have e3 : (els != tt) = false := by simpa using h3.symm
      have HI := hid (owns_lit_at w ((w.alloc (.cells #[.slice ia im ic, .int .u8 2, .int .i64 a, .int .i64 tt, .int .i64 els] 47)).alloc (.cells #[.int .u8 2, .int .i64 a, .int .i64 tt, .int .i64 els] 45)) [tt] (w.heap.size + 1 + 1) 1 #[.int .i64 tt] (by simp only [World.size_alloc]; omega) (by simp only [World.size_alloc]) rfl rfl (by simp))
      have HB : Hid (Below w.heap.size w (((w.alloc (.cells #[.slice ia im ic, .int .u8 2, .int .i64 a, .int .i64 tt, .int .i64 els] 47)).alloc (.cells #[.int .u8 2, .int .i64 a, .int .i64 tt, .int .i64 els] 45)).alloc (.cells #[.int .i64 tt] 3))) := (((Below.refl _ _).alloc (Nat.le_refl _) _).alloc (by simp) _).alloc (by simp only [World.size_alloc]; omega) _
      clear h3
      go_enter Tryz.func49, Tryz.ntmps49
      go_wp2
      go_ret
      exact ⟨_, rfl, by rw [HD.out]; exact HI.out, HB.out⟩
    · rw [if_neg (fun h => h.elim (by decide) fun h => h3 h.2), if_pos rfl] at HD
      have e3 : (els != tt) = true := by simpa using fun h => h3 h.symm
      have HI := hid (owns_lit_at w ((w.alloc (.cells #[.slice ia im ic, .int .u8 2, .int .i64 a, .int .i64 tt, .int .i64 els] 47)).alloc (.cells #[.int .u8 2, .int .i64 a, .int .i64 tt, .int .i64 els] 45)) [tt, els] (w.heap.size + 1 + 1) 2 #[.int .i64 tt, .int .i64 els] (by simp only [World.size_alloc]; omega) (by simp only [World.size_alloc]) rfl rfl (by simp))
      have HB : Hid (Below w.heap.size w (((w.alloc (.cells #[.slice ia im ic, .int .u8 2, .int .i64 a, .int .i64 tt, .int .i64 els] 47)).alloc (.cells #[.int .u8 2, .int .i64 a, .int .i64 tt, .int .i64 els] 45)).alloc (.cells #[.int .i64 tt, .int .i64 els] 3))) := (((Below.refl _ _).alloc (Nat.le_refl _) _).alloc (by simp) _).alloc (by simp only [World.size_alloc]; omega) _
      clear h3
      go_enter Tryz.func49, Tryz.ntmps49
      go_wp2
      go_ret
      exact ⟨_, rfl, by rw [HD.out]; exact HI.out, HB.out⟩
  · simp only at hk
    subst hk
    rw [if_neg (fun h => h.elim (by decide) fun h => absurd h.1 (by decide)), if_neg (by decide)] at HD
    have HB : Hid (Below w.heap.size w ((w.alloc (.cells #[.slice ia im ic, .int .u8 3, .int .i64 a, .int .i64 tt, .int .i64 els] 47)).alloc (.cells #[.int .u8 3, .int .i64 a, .int .i64 tt, .int .i64 els] 45))) := (((Below.refl _ _).alloc (Nat.le_refl _) _).alloc (by simp) _)
    go_enter Tryz.func49, Tryz.ntmps49
    go_wp2
    go_ret
    exact ⟨_, rfl, by rw [HD.out]; exact World.ownsRow_nil _ _ _ _, HB.out⟩

theorem next_to (x : Ex) (ia : Option Addr) (im ic : Nat) (w : World) (hk : x.kind = 1 ∨ x.kind = 2 ∨ x.kind = 3) :
    Calls Tryz.prog 49 #[.agg #[.slice ia im ic, .int .u8 x.kind, .int .i64 x.a, .int .i64 x.to, .int .i64 x.els]] w (LstRN (toE x) w) :=
  (next_own x ia im ic w hk).mono fun _ _ ⟨u, h1, h2, h3⟩ => ⟨u, h1, newI_of h2 (by have := toE_len x; omega), h3⟩

/-- a function's blocks, and an error -/
def BlsE (p : Px) (f b : Int) (w : World) (e : Ending) (w' : World) : Prop := ∃ ao n c, e = .returned (.tuple #[.slice ao n c, .int .i64 (askB p f b)]) ∧ (askB p f b = 0 → BlksAt w' (.slice ao n c) (blsP p f)) ∧ Below w.heap.size w w'
theorem bls_no {p : Px} {f b : Int} {w w' : World} {er : Int} (h : askB p f b = er) (hne : er ≠ 0) (hb : Below w.heap.size w w') : BlsE p f b w (.returned (.tuple #[.slice none 0 0, .int .i64 er])) w' :=
  ⟨none, 0, 0, by rw [h], fun h0 => absurd (h.symm.trans h0) hne, hb⟩
theorem bls_yes {p : Px} {f b : Int} {w w' : World} {ao : Option Addr} {n c : Nat} {l : List Bx} (h : askB p f b = 0) (hl : blsP p f = l) (hbl : BlksAt w' (.slice ao n c) l) (hb : Below w.heap.size w w') : BlsE p f b w (.returned (.tuple #[.slice ao n c, .int .i64 0])) w' :=
  ⟨ao, n, c, by rw [h], fun _ => hl ▸ hbl, hb⟩

/-- one of the functions in memory, in every world behind -/
theorem fn_later {W : World} {vf : Value} {p : Px} {f : Int} {k : Nat} {x : Fx} (h : FnsAt W vf p.funcs) (h1 : Has1 p f k x) : ∃ b off cap ao c, vf = .slice (some ⟨b, off, none⟩) p.funcs.length cap ∧ (∀ w', Aft W w' → w'.cell? ⟨b, off + k * 2, none⟩ = some (.int .i64 x.sig)) ∧ (∀ w', Aft W w' → w'.cell? ⟨b, off + k * 2 + 1, none⟩ = some (.slice ao x.blocks.length c)) ∧ BlksAt W (.slice ao x.blocks.length c) x.blocks := by
  obtain ⟨b, off, cap, vb, rfl, hb, c0, c1, hbl⟩ := fn_at h h1
  obtain ⟨ao, c, rfl, _⟩ := hbl.slice
  exact ⟨b, off, cap, ao, c, rfl, later c0, later c1, hbl⟩

set_option maxRecDepth 100000 in
set_option maxHeartbeats 8000000 in
theorem find_calls (p : Px) (f b : Int) (v : Value) (w : World) (hp : PrAt w v p) (htab : Tab w) (hs : Small p) (hok : POk p) :
    Calls Tryz.prog 48 #[v, .int .i64 f, .int .i64 b] w (BlsE p f b w) := by
  have hp0 := hp
  obtain ⟨vt, vf, rfl, ht, hf⟩ := hp
  obtain ⟨W, hW⟩ : ∃ W, W = w.alloc (.cells #[vt, vf] 25) := ⟨_, rfl⟩
  have hbW : Below w.heap.size w W := by rw [hW]; exact alloc_below _ _
  have k1 : W.heap[w.heap.size]? = some (.cells #[vt, vf] 25 (0, 0)) := by rw [hW]; exact alloc_new _ _
  have hpW := hp0.below hbW
  have HR := hid (regsP_calls p f _ W hpW (htab.on hbW) hs hok)
  have HFN := hid (fun (k : Nat) (x : Fx) (h1 : Has1 p f k x) => fn_later (hf.below fnStays hbW) h1)
  obtain ⟨ta, tc, rfl⟩ := ht.slice
  obtain ⟨fa, fc, rfl, _⟩ := hf.slice
  have l0 := later_cells k1 0 _ rfl; have l1 := later_cells k1 1 _ rfl
  have HBW := hid hbW
  have HW := hid hW
  have h0 := Aft.refl W
  clear ht hf hpW hbW hW k1 hp0 hs hok htab
  by_cases hz : findP p f = 0
  rotate_left
  · have HA := hid (fun w' => bls_no (p := p) (f := f) (b := b) (w := w) (w' := w') (ask_find hz) hz)
    have e0 : (findP p f != 0) = true := by simpa using hz
    clear HFN hz
    rw [if_neg (by simpa using e0)] at HR
    generalize findP p f = fe at *
    generalize p.types.length = n1 at *
    generalize p.funcs.length = n2 at *
    go_enter Tryz.func48, Tryz.ntmps48
    go_wp2_with fail
    rw [← HW.out]
    refine HR.out.mono ?_
    rintro e w1 ⟨rfl, hb1⟩
    have h1 := h0.go hb1
    clear HR hb1
    go_wp2
    go_ret2
    exact HA.out _ (h1.out HBW.out)
  obtain ⟨k, x, h1⟩ := has1 hz
  have HAY := hid (fun h0 h1 => ask_yes (p := p) (f := f) (b := b) hz h0 h1)
  have HAN := hid (fun h => ask_no (p := p) (f := f) (b := b) hz h)
  have HBP := hid (fn_blocks h1)
  rw [fn_blocks h1] at HAY HAN
  obtain ⟨fb, foff, fcap, ao, bc, he, d0, d1, hbl0⟩ := HFN.out k x h1
  cases he
  rw [hz, if_pos rfl] at HR
  generalize (cntP p f : Int) = cnt at *
  have hke := h1.eq
  have hkl := h1.lt
  have hbl := h1.blocks
  have HBL := hid hbl
  have HN := hid (fun (h : ¬ (0 ≤ b ∧ b < x.blocks.length)) w' => bls_no (p := p) (f := f) (b := b) (w := w) (w' := w') (er := 2) (HAN.out h) (by decide))
  have HY := hid (fun h1 h2 w' (ha : Aft W w') => bls_yes (p := p) (f := f) (b := b) (w := w) (w' := w') (HAY.out h1 h2) HBP.out (hbl0.below blkStays ha.below))
  clear HFN hz h1 hbl HAY HAN HBP hbl0
  subst hke
  obtain ⟨sg, bl⟩ := x
  simp only at *
  generalize p.types.length = n1 at *
  generalize p.funcs.length = n2 at *
  generalize bl.length = n3 at *
  by_cases b0 : b < 0
  · have HA := hid (HN.out (by omega))
    clear HN HY
    go_enter Tryz.func48, Tryz.ntmps48
    go_wp2_with fail
    rw [← HW.out]
    refine HR.out.mono ?_
    rintro e w1 ⟨rfl, hb1⟩
    have h1 := h0.go hb1
    have HE := hid (h1.out HBW.out)
    clear HR hb1
    go_wp2
    all_goals first | (exfalso; omega) | (go_ret2; exact HA.out _ HE.out)
  by_cases b1 : (n3 : Int) ≤ b
  · have HA := hid (HN.out (by omega))
    clear HN HY
    go_enter Tryz.func48, Tryz.ntmps48
    go_wp2_with fail
    rw [← HW.out]
    refine HR.out.mono ?_
    rintro e w1 ⟨rfl, hb1⟩
    have h1 := h0.go hb1
    have HE := hid (h1.out HBW.out)
    clear HR hb1
    go_wp2
    all_goals first | (exfalso; omega) | (go_ret2; exact HA.out _ HE.out)
  · have HA := hid (HY.out (by omega) (by omega))
    clear HN HY
    go_enter Tryz.func48, Tryz.ntmps48
    go_wp2_with fail
    rw [← HW.out]
    refine HR.out.mono ?_
    rintro e w1 ⟨rfl, hb1⟩
    have h1 := h0.go hb1
    have HE := hid (h1.out HBW.out)
    have HH1 := hid h1
    clear HR hb1
    go_wp2
    all_goals first | (exfalso; omega) | (go_ret2; exact HA.out _ HH1.out HE.out)
/-- where a function's blocks are found -/
def BlsY (l : List Bx) (w : World) (e : Ending) (w' : World) : Prop := ∃ ao c, e = .returned (.tuple #[.slice ao l.length c, .int .i64 0]) ∧ BlksAt w' (.slice ao l.length c) l ∧ Below w.heap.size w w'
theorem find_yes (p : Px) (f b : Int) (v : Value) (w : World) (hp : PrAt w v p) (htab : Tab w) (hs : Small p) (hok : POk p) (hz : askB p f b = 0) :
    Calls Tryz.prog 48 #[v, .int .i64 f, .int .i64 b] w (BlsY (blsP p f) w) := by
  refine (find_calls p f b v w hp htab hs hok).mono ?_
  rintro e w' ⟨ao, n, c, rfl, hbl, hb⟩
  have h1 := hbl hz
  obtain rfl := RowAt.len h1
  exact ⟨ao, c, by rw [hz], h1, hb⟩
/-- where they aren't -/
def BlsN (er : Int) (w : World) (e : Ending) (w' : World) : Prop := ∃ ao n c, e = .returned (.tuple #[.slice ao n c, .int .i64 er]) ∧ Below w.heap.size w w'
theorem find_no (p : Px) (f b : Int) (v : Value) (w : World) (hp : PrAt w v p) (htab : Tab w) (hs : Small p) (hok : POk p) :
    Calls Tryz.prog 48 #[v, .int .i64 f, .int .i64 b] w (BlsN (askB p f b) w) := by
  refine (find_calls p f b v w hp htab hs hok).mono ?_
  rintro e w' ⟨ao, n, c, rfl, _, hb⟩
  exact ⟨ao, n, c, rfl, hb⟩
end Go.Proofs.YtkcocgdgmlmflaaGreatDoor.FkN
namespace Go.Proofs.YtkcocgdgmlmflaaGreatDoor.FkNx
open Go.RowKit Go.Lib SetP IntO TyM TyP TyB ShM ShP ShA ShB ShE ShH ShI ShJ Aft FwM FwC FwP FwQ FwR FwO FwK FkN

theorem newI_base {B B2 : Nat} {w : World} {v : Value} {l : List Int} (h : NewI B w v l) (hb : B2 ≤ B) : NewI B2 w v l := ⟨h.1, fun g off n c e => Nat.le_trans hb (h.2 g off n c e)⟩
/-- a block by value, for the walk that reads it -/
theorem blk_cells {w : World} {ao : Option Addr} {n c : Nat} {l : List Bx} (h : BlksAt w (.slice ao n c) l) {b : Nat} (hb : b < l.length) : ∃ g off ia im ic, ao = some ⟨g, off, none⟩ ∧ w.cell? ⟨g, off + b * 5, none⟩ = some (.slice ia im ic) ∧ w.cell? ⟨g, off + b * 5 + 1, none⟩ = some (.int .u8 (endAt l b).kind) ∧ w.cell? ⟨g, off + b * 5 + 2, none⟩ = some (.int .i64 (endAt l b).a) ∧ w.cell? ⟨g, off + b * 5 + 3, none⟩ = some (.int .i64 (endAt l b).to) ∧ w.cell? ⟨g, off + b * 5 + 4, none⟩ = some (.int .i64 (endAt l b).els) := by
  obtain ⟨g, off, rfl, hlt, vi, c0, c1, c2, c3, c4, hins⟩ := h.at b hb
  have he : endAt l b = l[b].en := by unfold endAt; rw [List.getElem?_eq_getElem hb]; rfl
  obtain ⟨ia, ic, rfl, _⟩ := hins.slice
  rw [he]
  exact ⟨g, off, ia, _, ic, rfl, c0, c1, c2, c3, c4⟩
set_option maxRecDepth 100000 in
set_option maxHeartbeats 8000000 in
theorem next_c : NextC := by
  intro p f b v w hp htab hs hok _ _
  have hp0 := hp
  obtain ⟨vt, vf, rfl, ht, hf⟩ := hp
  obtain ⟨W, hW⟩ : ∃ W, W = w.alloc (.cells #[vt, vf] 25) := ⟨_, rfl⟩
  have hbW : Below w.heap.size w W := by rw [hW]; exact alloc_below _ _
  have k1 : W.heap[w.heap.size]? = some (.cells #[vt, vf] 25 (0, 0)) := by rw [hW]; exact alloc_new _ _
  have hpW := hp0.below hbW
  have HRY := hid (fun hz => find_yes p f b _ W hpW (htab.on hbW) hs hok hz)
  have HR := hid (find_no p f b _ W hpW (htab.on hbW) hs hok)
  obtain ⟨ta, tc, rfl⟩ := ht.slice
  obtain ⟨fa, fc, rfl, _⟩ := hf.slice
  have l0 := later_cells k1 0 _ rfl; have l1 := later_cells k1 1 _ rfl
  have HBW := hid hbW
  have HW := hid hW
  have h0 := Aft.refl W
  have HOK := hid hok
  clear ht hf hpW hbW hW k1 hp0 hs hok htab
  by_cases hz : askB p f b = 0
  rotate_left
  · have HN : Hid (nextA p f b = []) := by show _ = _; unfold nextA; rw [if_neg hz]
    have e0 : (askB p f b != 0) = true := by simpa using hz
    clear hz HRY
    generalize nextA p f b = na at *
    generalize askB p f b = fe at *
    generalize p.types.length = n1 at *
    generalize p.funcs.length = n2 at *
    go_enter Tryz.func30, Tryz.ntmps30
    go_wp2_with fail
    rw [← HW.out]
    refine HR.out.mono ?_
    rintro e w1 ⟨ao, n, c, rfl, hb1⟩
    have h1 := h0.go hb1
    clear HR hb1
    go_wp2
    go_ret2
    exact ⟨_, rfl, by rw [HN.out]; exact newI_none _ _, h1.out HBW.out⟩
  obtain ⟨hz1, b0, b1⟩ := ask_zero hz
  have HN : Hid (nextA p f b = toE (endAt (blsP p f) b.toNat)) := by show _ = _; unfold nextA; rw [if_pos hz]
  have HKD := hid (kinds_fn HOK.out hz1)
  obtain ⟨j, hj⟩ : ∃ j : Nat, b = j := ⟨b.toNat, by omega⟩
  subst hj
  rw [Int.toNat_natCast] at HN
  have hjl : j < (blsP p f).length := by omega
  have HNX := hid (fun (ia : Option Addr) (im ic : Nat) (w1 : World) => next_to (endAt (blsP p f) j) ia im ic w1 (HKD.out j hjl))
  have HR1 := hid (HRY.out hz)
  rw [hz]
  clear HR HRY hz hz1 b0 b1 HKD
  generalize nextA p f (j : Int) = na at *
  generalize blsP p f = bl at *
  generalize p.types.length = n1 at *
  generalize p.funcs.length = n2 at *
  go_enter Tryz.func30, Tryz.ntmps30
  go_wp2_with fail
  rw [← HW.out]
  refine HR1.out.mono ?_
  rintro e w1 ⟨ao, c, rfl, hbl1, hb1⟩
  have h1 := h0.go hb1
  obtain ⟨g, off, ia, im, ic, rfl, c0, c1, c2, c3, c4⟩ := blk_cells hbl1 hjl
  have hjn : (j : Int) < (bl.length : Int) := by omega
  have HS := hid h1.size
  clear HR1 hb1 hbl1
  generalize toE (endAt bl j) = tx at *
  generalize endAt bl j = x at *
  obtain ⟨ek, ea, et, ee⟩ := x
  simp only at *
  generalize bl.length = n at *
  go_wp2_with fail
  refine (HNX.out ia im ic w1).mono ?_
  rintro e w2 ⟨u, rfl, hu, hb2⟩
  have HE := hid ((h1.go hb2).out HBW.out)
  have HU := hid (newI_base hu (Nat.le_trans HBW.out.size HS.out))
  clear HNX hb2 hu c0 c1 c2 c3 c4
  go_wp2
  go_ret2
  exact ⟨_, rfl, by rw [HN.out]; exact HU.out, HE.out⟩
set_option maxRecDepth 100000 in
set_option maxHeartbeats 8000000 in
theorem next_own_c (p : Px) (f b : Int) (v : Value) (w : World) (hp : PrAt w v p) (htab : Tab w) (hs : Small p) (hok : POk p) (hz : askB p f b = 0) :
    Calls Tryz.prog 30 #[v, .int .i64 f, .int .i64 b] w fun e w' => ∃ u, e = .returned (.tuple #[u, .int .i64 0]) ∧ w'.ownsRow w.heap.size 3 1 u (toE (endAt (blsP p f) b.toNat)).length (intVals (toE (endAt (blsP p f) b.toNat))) ∧ Below w.heap.size w w' := by
  have hp0 := hp
  obtain ⟨vt, vf, rfl, ht, hf⟩ := hp
  obtain ⟨W, hW⟩ : ∃ W, W = w.alloc (.cells #[vt, vf] 25) := ⟨_, rfl⟩
  have hbW : Below w.heap.size w W := by rw [hW]; exact alloc_below _ _
  have k1 : W.heap[w.heap.size]? = some (.cells #[vt, vf] 25 (0, 0)) := by rw [hW]; exact alloc_new _ _
  have hpW := hp0.below hbW
  have HRY := hid (fun hz => find_yes p f b _ W hpW (htab.on hbW) hs hok hz)
  obtain ⟨ta, tc, rfl⟩ := ht.slice
  obtain ⟨fa, fc, rfl, _⟩ := hf.slice
  have l0 := later_cells k1 0 _ rfl; have l1 := later_cells k1 1 _ rfl
  have HBW := hid hbW
  have HW := hid hW
  have h0 := Aft.refl W
  have HOK := hid hok
  clear ht hf hpW hbW hW k1 hp0 hs hok htab
  obtain ⟨hz1, b0, b1⟩ := ask_zero hz
  have HKD := hid (kinds_fn HOK.out hz1)
  obtain ⟨j, hj⟩ : ∃ j : Nat, b = j := ⟨b.toNat, by omega⟩
  subst hj
  rw [Int.toNat_natCast]
  have hjl : j < (blsP p f).length := by omega
  have HNX := hid (fun (ia : Option Addr) (im ic : Nat) (w1 : World) => next_own (endAt (blsP p f) j) ia im ic w1 (HKD.out j hjl))
  have HR1 := hid (HRY.out hz)
  clear HRY hz hz1 b0 b1 HKD
  generalize blsP p f = bl at *
  generalize p.types.length = n1 at *
  generalize p.funcs.length = n2 at *
  generalize toE (endAt bl j) = tx at *
  go_enter Tryz.func30, Tryz.ntmps30
  go_wp2_with fail
  rw [← HW.out]
  refine HR1.out.mono ?_
  rintro e w1 ⟨ao, c, rfl, hbl1, hb1⟩
  have h1 := h0.go hb1
  obtain ⟨g, off, ia, im, ic, rfl, c0, c1, c2, c3, c4⟩ := blk_cells hbl1 hjl
  have hjn : (j : Int) < (bl.length : Int) := by omega
  have HS := hid h1.size
  clear HR1 hb1 hbl1
  generalize endAt bl j = x at *
  obtain ⟨ek, ea, et, ee⟩ := x
  simp only at *
  generalize bl.length = n at *
  go_wp2_with fail
  refine (HNX.out ia im ic w1).mono ?_
  rintro e w2 ⟨u, rfl, hu, hb2⟩
  have HE := hid ((h1.go hb2).out HBW.out)
  have HU := hid (owns_base hu (Nat.le_trans HBW.out.size HS.out))
  clear HNX hb2 hu c0 c1 c2 c3 c4
  go_wp2
  go_ret2
  exact ⟨_, rfl, HU.out, HE.out⟩
end Go.Proofs.YtkcocgdgmlmflaaGreatDoor.FkNx
namespace Go.Proofs.YtkcocgdgmlmflaaGreatDoor.ShK
open Go.RowKit Go.Lib SetP IntO TyM TyP TyB TyC ShM ShP ShA ShB ShC ShE ShQ ShF ShG ShH ShI ShJ

/-- the block, and the place in it, of an instruction by its number -/
def locate : List Bx → Nat → Nat × Nat
  | [], n => (0, n)
  | b :: l, n => if n < b.ins.length then (0, n) else ((locate l (n - b.ins.length)).1 + 1, (locate l (n - b.ins.length)).2)
theorem locate_of : ∀ (l : List Bx) (n j i : Nat) (h : j < l.length), manyB (l.take j) + i = n → i < l[j].ins.length → locate l n = (j, i)
  | [], _, _, _, h, _, _ => by simp at h
  | b :: l, n, 0, i, h, h1, h2 => by
    simp [manyB_nil] at h1
    subst h1
    unfold locate
    rw [if_pos (by simpa using h2)]
  | b :: l, n, j + 1, i, h, h1, h2 => by
    rw [List.take_succ_cons, manyB_cons] at h1
    have ih := locate_of l (n - b.ins.length) j i (by simpa using h) (by omega) (by simpa using h2)
    unfold locate
    rw [if_neg (by omega), ih]
theorem more_blocks {l : List Bx} {j n : Nat} (h : manyB (l.take j) ≤ n) (hn : n < manyB l) : j < l.length := by
  by_cases hj : j < l.length
  · exact hj
  · rw [List.take_of_length_le (by omega)] at h; omega
/-- what Place answers -/
def fnP (p : Px) (f : Int) : Fx := (p.funcs[f.toNat]?).getD default
theorem fn_eq {p : Px} {f : Int} {k : Nat} {x : Fx} (h : Has1 p f k x) : fnP p f = x := by
  unfold fnP
  rw [h.eq, Int.toNat_natCast, h.at_]; rfl
def placeE (p : Px) (f r : Int) : Int := if findP p f ≠ 0 then findP p f else if 0 ≤ r ∧ r < cntP p f then 0 else 2
def placeB (p : Px) (f r : Int) : Int := if placeE p f r ≠ 0 then (0 : Int) else if r < parOf p.types (fnP p f).sig then (-1 : Int) else (((locate (fnP p f).blocks (r - parOf p.types (fnP p f).sig).toNat).1 : Nat) : Int)
def placeI (p : Px) (f r : Int) : Int := if placeE p f r ≠ 0 then (0 : Int) else if r < parOf p.types (fnP p f).sig then r else (((locate (fnP p f).blocks (r - parOf p.types (fnP p f).sig).toNat).2 : Nat) : Int)
end Go.Proofs.YtkcocgdgmlmflaaGreatDoor.ShK
namespace Go.Proofs.YtkcocgdgmlmflaaGreatDoor.ShL
open Go.RowKit Go.Lib SetP IntO TyM TyP TyB TyC ShM ShP ShA ShB ShC ShE ShQ ShF ShG ShH ShI ShJ ShK

/-- what Reg answers -/
def insN (l : List Bx) (b : Int) : Nat := ((l[b.toNat]?).getD default).ins.length
def regE (p : Px) (f b i : Int) : Int := if findP p f ≠ 0 then findP p f else if (0 ≤ b ∧ b < (fnP p f).blocks.length) ∧ 0 ≤ i ∧ i < insN (fnP p f).blocks b then 0 else 2
def regN (p : Px) (f b i : Int) : Int := if regE p f b i ≠ 0 then (0 : Int) else ((parOf p.types (fnP p f).sig + manyB ((fnP p f).blocks.take b.toNat) : Nat) : Int) + i
theorem insN_at {l : List Bx} {k : Nat} (h : k < l.length) : insN l (k : Int) = l[k].ins.length := by
  unfold insN
  rw [Int.toNat_natCast, List.getElem?_eq_getElem h]; rfl
end Go.Proofs.YtkcocgdgmlmflaaGreatDoor.ShL
namespace Go.Proofs.YtkcocgdgmlmflaaGreatDoor.FdQ
open TyM ShM ShP ShE ShH ShI ShN ShJ ShK ShL FwM FwC FwP FwQ FdM

/-- the error of a program, a function and a block that should be reached -/
def askR (p : Px) (f b : Int) : Int := if askB p f b ≠ 0 then askB p f b else if b.toNat ∈ reachedL (blsP p f) then 0 else 6
theorem askR_bad {p : Px} {f b : Int} (h : askB p f b ≠ 0) : askR p f b = askB p f b := by unfold askR; rw [if_pos h]
theorem askR_in {p : Px} {f b : Int} (h : askB p f b = 0) (hb : b.toNat ∈ reachedL (blsP p f)) : askR p f b = 0 := by unfold askR; rw [if_neg (fun e => e h), if_pos hb]
theorem askR_out {p : Px} {f b : Int} (h : askB p f b = 0) (hb : b.toNat ∉ reachedL (blsP p f)) : askR p f b = 6 := by unfold askR; rw [if_neg (fun e => e h), if_neg hb]
theorem askR_zero {p : Px} {f b : Int} (h : askR p f b = 0) : askB p f b = 0 ∧ b.toNat ∈ reachedL (blsP p f) := by
  unfold askR at h
  split at h
  · rename_i hh; exact absurd h hh
  · rename_i hh
    split at h
    · rename_i h2; exact ⟨by omega, h2⟩
    · cases h
def rulesE (p : Px) (f a b : Int) : Int := if askB p f a ≠ 0 then askB p f a else askR p f b
def rulesA (p : Px) (f a b : Int) : Bool := if rulesE p f a b = 0 then ruledL (blsP p f) a.toNat b.toNat else false
theorem rulesE_zero {p : Px} {f a b : Int} (h : rulesE p f a b = 0) : askB p f a = 0 ∧ askR p f b = 0 := by
  unfold rulesE at h
  split at h
  · rename_i hh; exact absurd h hh
  · rename_i hh; exact ⟨by omega, h⟩
def nextD (p : Px) (f b : Int) : Int := if askR p f b = 0 then rulerL (blsP p f) b.toNat else 0
def allL (l : List Bx) : List Int := (List.range l.length).map fun b => if b ∈ reachedL l then rulerL l b else -1
def allD (p : Px) (f : Int) : List Int := if findP p f = 0 then allL (blsP p f) else []
theorem reach_zero {p : Px} {f : Int} (ho : POk p) (h : findP p f = 0) : askR p f 0 = 0 := by
  refine askR_in (ask_first.trans h) ?_
  obtain ⟨h1, h2, _⟩ := low_fn ho h
  exact (reached_mem h1 h2 0).2 .here

/-! what is set -/
def isSetL (par : Nat) (l : List Bx) (r block pl : Int) : Bool :=
  if r < par then true else if (((locate l (r - par).toNat).1 : Nat) : Int) = block then decide ((((locate l (r - par).toNat).2 : Nat) : Int) < pl) else ruledL l (locate l (r - par).toNat).1 block.toNat
/-- may a place be asked of a block that there is? -/
def atE (p : Px) (f block pl : Int) : Int := if askB p f block ≠ 0 then askB p f block else if pl < 0 ∨ (insN (blsP p f) block : Int) < pl then 2 else 0
def setE (p : Px) (f r block pl : Int) : Int := if placeE p f r ≠ 0 then placeE p f r else if atE p f block pl ≠ 0 then atE p f block pl else askR p f block
def setA (p : Px) (f r block pl : Int) : Bool := if setE p f r block pl = 0 then isSetL (parOf p.types (fnP p f).sig) (blsP p f) r block pl else false
theorem fn_bls (p : Px) (f : Int) : (fnP p f).blocks = blsP p f := rfl
theorem setE_zero {p : Px} {f r block pl : Int} (h : setE p f r block pl = 0) : placeE p f r = 0 ∧ atE p f block pl = 0 ∧ askR p f block = 0 := by
  unfold setE at h
  split at h
  · rename_i hh; exact absurd h hh
  · rename_i hh
    split at h
    · rename_i h2; exact absurd h h2
    · rename_i h2; exact ⟨by omega, by omega, h⟩
end Go.Proofs.YtkcocgdgmlmflaaGreatDoor.FdQ
namespace Go.Proofs.YtkcocgdgmlmflaaGreatDoor.LvQ
open TyM ShM ShP ShE ShH ShI ShN ShJ ShK ShL FwM FwC FwP FwQ FdQ FxL LvM

/-- an instruction's register -/
def ownN (par : Nat) (l : List Bx) (b k : Nat) : Nat := par + manyB (l.take b) + k
/-- what lives at blocks' beginnings -/
def begX (par : Nat) (l : List Bx) (r : Nat) : Nat → Bool := rnd (inB l (ownN par l) r) l.length
def endB (par : Nat) (l : List Bx) (b r : Nat) : Bool := outB l r (begX par l r) b
def livB (par : Nat) (l : List Bx) (b pl r : Nat) : Bool := (within (ownN par l) r b (endAt l b) pl ((insAt l b).drop pl)).getD (endB par l b r)
theorem endB_iff {par : Nat} {l : List Bx} (h : Low l) {b r : Nat} (hb : b < l.length) : endB par l b r = true ↔ Lv l (ownN par l) r b ((insAt l b).length + 1) := by
  unfold endB outB begX
  rw [lv_out, List.any_eq_true]
  constructor
  · rintro ⟨j, hj, hv⟩
    refine ⟨j, hj, ?_⟩
    rcases Bool.or_eq_true_iff.1 hv with e | e
    · exact .inl ((rounds_lv h (Nat.le_refl _) (succ_lt h b hb j hj)).1 e)
    · exact .inr e
  · rintro ⟨j, hj, hv⟩
    refine ⟨j, hj, ?_⟩
    rcases hv with e | e
    · rw [(rounds_lv h (Nat.le_refl _) (succ_lt h b hb j hj)).2 e]; rfl
    · rw [e]; simp
theorem livB_iff {par : Nat} {l : List Bx} (h : Low l) {b r pl : Nat} (hb : b < l.length) (hp : pl ≤ (insAt l b).length) : livB par l b pl r = true ↔ Lv l (ownN par l) r b pl := by
  rw [within_lv ((insAt l b).drop pl) b pl rfl hp, ← endB_iff h hb]
  unfold livB
  cases within (ownN par l) r b (endAt l b) pl ((insAt l b).drop pl) with
  | none => simp
  | some t => simp
/-- how many parameters a function has -/
def parP (p : Px) (f : Int) : Nat := parOf p.types (fnP p f).sig
def livesL (par N : Nat) (l : List Bx) (b pl : Nat) : List Nat := (List.range N).filter fun r => livB par l b pl r
def endsL (par N : Nat) (l : List Bx) (b : Nat) : List Nat := (List.range N).filter fun r => endB par l b r
def liveA (p : Px) (f block pl : Int) : List Int := if atE p f block pl = 0 then ints (livesL (parP p f) (cntP p f) (blsP p f) block.toNat pl.toNat) else []
def lendA (p : Px) (f block : Int) : List Int := if askB p f block = 0 then ints (endsL (parP p f) (cntP p f) (blsP p f) block.toNat) else []
theorem atE_zero {p : Px} {f block pl : Int} (h : atE p f block pl = 0) : askB p f block = 0 ∧ 0 ≤ pl ∧ pl ≤ insN (blsP p f) block := by
  unfold atE at h
  split at h
  · rename_i hh; exact absurd h hh
  · rename_i hh
    split at h
    · cases h
    · rename_i h2; exact ⟨by omega, by omega, by omega⟩
theorem atE_first {p : Px} {f block : Int} : atE p f block 0 = askB p f block := by
  unfold atE
  split
  · rfl
  · rename_i hh
    rw [if_neg (by omega)]
    omega
theorem livesL_mem {par N : Nat} {l : List Bx} {b pl r : Nat} : r ∈ livesL par N l b pl ↔ r < N ∧ livB par l b pl r = true := by
  unfold livesL
  rw [List.mem_filter, List.mem_range]
theorem endsL_mem {par N : Nat} {l : List Bx} {b r : Nat} : r ∈ endsL par N l b ↔ r < N ∧ endB par l b r = true := by
  unfold endsL
  rw [List.mem_filter, List.mem_range]
end Go.Proofs.YtkcocgdgmlmflaaGreatDoor.LvQ
namespace Go.Proofs.YtkcocgdgmlmflaaGreatDoor.LgK
open Go.RowKit Go.Lib SetP IntO TyM TyP TyB ShM ShP ShA ShI ShJ FwP FwQ FwR FwK FdQ LvQ

def AtC : Prop := ∀ (p : Px) (f b pl : Int) (v : Value) (w : World), PrAt w v p → Tab w → Small p → POk p → I64 f → I64 b → I64 pl →
  Calls Tryz.prog 6 #[v, .int .i64 f, .int .i64 b, .int .i64 pl] w (LstE (liveA p f b pl) (atE p f b pl) w)
def EndC : Prop := ∀ (p : Px) (f b : Int) (v : Value) (w : World), PrAt w v p → Tab w → Small p → POk p → I64 f → I64 b →
  Calls Tryz.prog 8 #[v, .int .i64 f, .int .i64 b] w (LstE (lendA p f b) (askB p f b) w)
end Go.Proofs.YtkcocgdgmlmflaaGreatDoor.LgK
namespace Go.Proofs.YtkcocgdgmlmflaaGreatDoor.LuM
open TyM ShM ShP ShE ShH ShI ShN ShJ FwM FwC FwP FwQ FdQ FxL LvM LvQ

/-- of a function that may be: its instructions' and its ends' registers -/
structure Regs (N : Nat) (l : List Bx) : Prop where
  uses : ∀ b ∈ l, ∀ x ∈ b.ins, ∀ r ∈ usesOf x, 0 ≤ r ∧ r < N
  ends : ∀ b ∈ l, ∀ r ∈ endsOf b.en, 0 ≤ r ∧ r < N
  phi : ∀ b ∈ l, ∀ x ∈ b.ins, x.op = 22 → x.frm.length = x.args.length ∧ ∀ r ∈ x.args, 0 ≤ r ∧ r < N
  other : ∀ b ∈ l, ∀ x ∈ b.ins, x.op ≠ 22 → x.frm = []
  few : ∀ b ∈ l, ∀ x ∈ b.ins, x.args.length ≤ 16
  many : manyB l ≤ 128
theorem fewer {l : List Bx} {b : Bx} (h : b ∈ l) : b.ins.length ≤ manyB l := by
  induction l with
  | nil => cases h
  | cons c l ih =>
    rw [manyB_cons]
    rcases List.mem_cons.1 h with rfl | h
    · omega
    · have := ih h; omega
theorem low_mem {n r : Int} {L : List Int} (h : lowB n L = true) (hr : r ∈ L) : 0 ≤ r ∧ r < n := by
  unfold lowB at h
  have := List.all_eq_true.1 h r hr
  simpa using this
theorem regs_of {p : Px} {f : Fx} (h : chkP p = 0) (ho : POk p) (hf : f ∈ p.funcs) : Regs (parOf p.types f.sig + manyB f.blocks) f.blocks := by
  unfold chkP at h
  split at h
  · rename_i hc; exact absurd h hc
  split at h
  · exact absurd h (by decide)
  split at h
  · rename_i hall
    have hmf := List.all_eq_true.1 hall f hf
    unfold mayF at hmf
    split at hmf
    · cases hmf
    split at hmf
    · cases hmf
    split at hmf
    · cases hmf
    rename_i hbl
    have hi : ∀ b ∈ f.blocks, ∀ x ∈ b.ins, mayIR p.types.length ((parOf p.types f.sig + manyB f.blocks : Nat) : Int) p.funcs.length f.blocks.length x = true := by
      intro b hb x hx
      have hbb := List.all_eq_true.1 hmf b hb
      unfold mayBl at hbb
      simp only [Bool.and_eq_true] at hbb
      have := List.all_eq_true.1 hbb.2 x hx
      rwa [mayI_eq ((ho f hf b hb).2 x hx).1] at this
    have he : ∀ b ∈ f.blocks, mayER ((parOf p.types f.sig + manyB f.blocks : Nat) : Int) f.blocks.length b.en = true := by
      intro b hb
      have hbb := List.all_eq_true.1 hmf b hb
      unfold mayBl at hbb
      simp only [Bool.and_eq_true] at hbb
      have := hbb.1
      rwa [mayE_eq (ho f hf b hb).1.1] at this
    have hu : ∀ b ∈ f.blocks, ∀ x ∈ b.ins, lowB ((parOf p.types f.sig + manyB f.blocks : Nat) : Int) (usesOf x) = true := by
      intro b hb x hx
      have h1 := hi b hb x hx
      unfold mayIR at h1
      split at h1
      · cases h1
      rename_i hn
      cases e : lowB ((parOf p.types f.sig + manyB f.blocks : Nat) : Int) (usesOf x) with
      | true => rfl
      | false => exact absurd (.inr (.inr (.inl e))) hn
    have hphi : ∀ b ∈ f.blocks, ∀ x ∈ b.ins, (x.op = 22 → x.frm.length = x.args.length ∧ x.frm.length ≤ 16) ∧ (x.op ≠ 22 → x.frm = [] ∧ x.args.length ≤ 4) := by
      intro b hb x hx
      have h1 := hi b hb x hx
      unfold mayIR at h1
      split at h1
      · cases h1
      split at h1
      · cases h1
      split at h1
      · cases h1
      split at h1
      · rename_i h22
        simp only [Bool.and_eq_true, decide_eq_true_eq] at h1
        exact ⟨fun _ => ⟨h1.1.1, h1.1.2.2⟩, fun e => absurd h22 e⟩
      · rename_i h22
        have h2 := of_decide_eq_true h1
        exact ⟨fun e => absurd e h22, fun _ => ⟨List.eq_nil_of_length_eq_zero h2.1, h2.2⟩⟩
    refine ⟨fun b hb x hx r hr => low_mem (hu b hb x hx) hr, fun b hb r hr => ?_, fun b hb x hx h22 => ⟨((hphi b hb x hx).1 h22).1, fun r hr => low_mem (hu b hb x hx) ?_⟩, fun b hb x hx h22 => ((hphi b hb x hx).2 h22).1, fun b hb x hx => ?_, by omega⟩
    · have h1 := he b hb
      unfold mayER at h1
      unfold endsOf at hr
      split at hr
      · rename_i hk
        obtain rfl := List.mem_singleton.1 hr
        split at h1
        · rename_i e; omega
        split at h1
        · simp only [Bool.and_eq_true] at h1
          exact low_mem h1.1 (by simp)
        split at h1
        · simp only [Bool.and_eq_true] at h1
          exact low_mem h1.2 (by simp)
        · cases h1
      · cases hr
    · have ha : argsB x.op = true := by rw [h22]; decide
      unfold usesOf
      rw [if_pos ha]
      simp [hr]
    · by_cases e : x.op = 22
      · have := (hphi b hb x hx).1 e; omega
      · have := (hphi b hb x hx).2 e; omega
  · exact absurd h (by decide)

/-! bools, step by step -/
def litT (us : List Int) (g : Nat → Bool) : Nat → Bool := fun r => decide ((r : Int) ∈ us) || g r
theorem litT_nil (g : Nat → Bool) : litT [] g = g := by funext r; simp [litT]
theorem litT_succ {us : List Int} {g : Nat → Bool} {j u : Nat} (h : us[j]? = some (u : Int)) : litT (us.take (j + 1)) g = fun r => if r = u then true else litT (us.take j) g r := by
  funext r
  obtain ⟨hj, he⟩ := List.getElem?_eq_some_iff.1 h
  unfold litT
  rw [List.take_succ_eq_append_getElem hj, he]
  by_cases e : r = u
  · subst e; simp
  · rw [if_neg e]
    have : ¬ (r : Int) = (u : Int) := by omega
    simp [this]
def offT (u : Nat) (g : Nat → Bool) : Nat → Bool := fun r => if r = u then false else g r
/-- what lives from a place on -/
def wth (own : Nat → Nat → Nat) (b : Nat) (en : Ex) (e : Nat → Bool) (k : Nat) (xs : List Ix) : Nat → Bool := fun r => (within own r b en k xs).getD (e r)
theorem wth_nil (own : Nat → Nat → Nat) (b : Nat) (en : Ex) (e : Nat → Bool) (k : Nat) : wth own b en e k [] = litT (endsOf en) e := by
  funext r
  unfold wth within litT
  by_cases h : (r : Int) ∈ endsOf en <;> simp [h]
def seen (x : Ix) : List Int := if x.op = 22 then [] else usesOf x
theorem wth_cons (own : Nat → Nat → Nat) (b : Nat) (en : Ex) (e : Nat → Bool) (k : Nat) (x : Ix) (xs : List Ix) : wth own b en e k (x :: xs) = litT (seen x) (offT (own b k) (wth own b en e (k + 1) xs)) := by
  funext r
  unfold wth litT offT seen
  conv => lhs; unfold within
  unfold readsI
  by_cases h1 : x.op = 22
  · by_cases h2 : own b k = r
    · simp [h1, h2]
    · have h2' : ¬ r = own b k := fun e => h2 e.symm
      simp [h1, h2, h2']
  · by_cases h3 : (r : Int) ∈ usesOf x
    · simp [h1, h3]
    · by_cases h2 : own b k = r
      · simp [h1, h2, h3]
      · have h2' : ¬ r = own b k := fun e => h2 e.symm
        simp [h1, h2, h2', h3]

/-! at a block's end: one that comes behind it after the other -/
/-- those that the first m instructions read as a phi, of the block b -/
def phiT (b : Nat) (xs : List Ix) (r : Nat) : Bool := xs.any fun x => decide (x.op = 22) && decide (((b : Int), (r : Int)) ∈ x.frm.zip x.args)
def stepT (b : Nat) (xs : List Ix) (X g : Nat → Bool) : Nat → Bool := fun r => (g r || X r) || phiT b xs r
theorem phiT_nil (b r : Nat) : phiT b [] r = false := rfl
/-- of one instruction, the first m pairs -/
def prT (b m : Nat) (x : Ix) (r : Nat) : Bool := decide (((b : Int), (r : Int)) ∈ (x.frm.zip x.args).take m)
theorem phi_take {b : Nat} {xs : List Ix} {k : Nat} {x : Ix} (h : xs[k]? = some x) (h2 : x.op ≠ 22 → x.frm = []) (r : Nat) : phiT b (xs.take (k + 1)) r = (phiT b (xs.take k) r || prT b x.frm.length x r) := by
  obtain ⟨hk, he⟩ := List.getElem?_eq_some_iff.1 h
  unfold phiT prT
  rw [List.take_succ_eq_append_getElem hk, he, List.any_append]
  congr 1
  rw [List.take_of_length_le (by rw [List.length_zip]; omega)]
  by_cases e : x.op = 22
  · simp [e]
  · simp [e, h2 e]
theorem prT_zero (b : Nat) (x : Ix) (r : Nat) : prT b 0 x r = false := by simp [prT]
theorem prT_succ {b m : Nat} {x : Ix} {u : Nat} (hf : x.frm[m]? = some (b : Int)) (ha : x.args[m]? = some (u : Int)) (r : Nat) : prT b (m + 1) x r = (if r = u then true else prT b m x r) := by
  have hz : (x.frm.zip x.args)[m]? = some ((b : Int), (u : Int)) := by rw [List.getElem?_zip_eq_some]; exact ⟨hf, ha⟩
  obtain ⟨hk, he⟩ := List.getElem?_eq_some_iff.1 hz
  unfold prT
  rw [List.take_succ_eq_append_getElem hk, he]
  by_cases e : r = u
  · subst e; simp
  · rw [if_neg e]
    have : ¬ (r : Int) = (u : Int) := by omega
    simp [this]
theorem prT_skip {b m : Nat} {x : Ix} {c : Int} (hf : x.frm[m]? = some c) (hc : c ≠ (b : Int)) (r : Nat) : prT b (m + 1) x r = prT b m x r := by
  unfold prT
  by_cases hm : m < x.args.length
  · have hz : (x.frm.zip x.args)[m]? = some (c, x.args[m]) := by rw [List.getElem?_zip_eq_some]; exact ⟨hf, List.getElem?_eq_getElem hm⟩
    obtain ⟨hk, he⟩ := List.getElem?_eq_some_iff.1 hz
    rw [List.take_succ_eq_append_getElem hk, he]
    have : ¬ (b : Int) = c := fun e => hc e.symm
    simp [this]
  · rw [List.take_of_length_le (by rw [List.length_zip]; omega), List.take_of_length_le (by rw [List.length_zip]; omega)]
/-- or-ed, up to a register -/
def midT (G Y : Nat → Bool) (k : Nat) : Nat → Bool := fun r => if r < k then G r || Y r else G r
theorem midT_zero (G Y : Nat → Bool) : midT G Y 0 = G := by funext r; simp [midT]
theorem midT_at (G Y : Nat → Bool) (k : Nat) : midT G Y k k = G k := by simp [midT]
theorem midT_succ (G Y : Nat → Bool) (k : Nat) : (fun r => if r = k then (G k || Y k) else midT G Y k r) = midT G Y (k + 1) := by
  funext r
  unfold midT
  by_cases e : r = k
  · subst e; simp
  · by_cases h : r < k
    · simp [e, h, show r < k + 1 by omega]
    · simp [e, h, show ¬ r < k + 1 by omega]
theorem midT_all {G Y : Nat → Bool} {N r : Nat} (h : r < N) : midT G Y N r = (G r || Y r) := by unfold midT; rw [if_pos h]
/-- of the first i that come behind -/
def goT (l : List Bx) (X : Nat → Nat → Bool) (b : Nat) (js : List Nat) : Nat → Bool := fun r => js.any fun j => X j r || phiT b (insAt l j) r
theorem goT_nil (l : List Bx) (X : Nat → Nat → Bool) (b : Nat) : goT l X b [] = fun _ => false := rfl
theorem goT_succ {l : List Bx} {X : Nat → Nat → Bool} {b i j : Nat} {js : List Nat} (h : js[i]? = some j) : goT l X b (js.take (i + 1)) = stepT b (insAt l j) (X j) (goT l X b (js.take i)) := by
  funext r
  obtain ⟨hi, he⟩ := List.getElem?_eq_some_iff.1 h
  unfold goT stepT
  rw [List.take_succ_eq_append_getElem hi, he, List.any_append]
  simp [Bool.or_assoc]
theorem goT_all (l : List Bx) (X : Nat → Nat → Bool) (b r : Nat) : goT l X b (succ l b) r = outB l r (fun j => X j r) b := rfl

/-! the rounds -/
/-- what lives at the beginnings after t rounds -/
def XT (par : Nat) (l : List Bx) (t j r : Nat) : Bool := rnd (inB l (ownN par l) r) t j
def YT (par : Nat) (l : List Bx) (t b : Nat) : Nat → Bool := goT l (XT par l t) b (succ l b)
theorem XT_zero (par : Nat) (l : List Bx) (j r : Nat) : XT par l 0 j r = false := rfl
theorem XT_succ {par : Nat} {l : List Bx} {t b : Nat} (hb : b < l.length) (r : Nat) : XT par l (t + 1) b r = wth (ownN par l) b l[b].en (YT par l t b) 0 l[b].ins r := by
  have he : endAt l b = l[b].en := by unfold endAt; rw [List.getElem?_eq_getElem hb]; rfl
  have hi : insAt l b = l[b].ins := by unfold insAt; rw [List.getElem?_eq_getElem hb]; rfl
  show inB l (ownN par l) r (rnd (inB l (ownN par l) r) t) b = _
  unfold inB wth
  rw [decide_eq_true hb, Bool.true_and, he, hi]
  cases within (ownN par l) r b l[b].en 0 l[b].ins with
  | some v => rfl
  | none => rfl
theorem YT_all {par : Nat} {l : List Bx} (b r : Nat) : YT par l l.length b r = endB par l b r := rfl
theorem liv_eq {par : Nat} {l : List Bx} {b pl r : Nat} (hb : b < l.length) : wth (ownN par l) b l[b].en (YT par l l.length b) pl (l[b].ins.drop pl) r = livB par l b pl r := by
  have he : endAt l b = l[b].en := by unfold endAt; rw [List.getElem?_eq_getElem hb]; rfl
  have hi : insAt l b = l[b].ins := by unfold insAt; rw [List.getElem?_eq_getElem hb]; rfl
  unfold wth livB
  rw [he, hi]
  rfl
end Go.Proofs.YtkcocgdgmlmflaaGreatDoor.LuM
namespace Go.Proofs.YtkcocgdgmlmflaaGreatDoor.LgD
open TyM ShM ShP ShE ShH ShI ShN ShJ FwM FwC FwP FwQ FdQ FxL LvM LvQ LuM

/-- of an instruction, the first m pairs: what a phi reads from b -/
def prL (b m : Nat) (x : Ix) : List Int := if x.op = 22 then (((x.frm.zip x.args).take m).filter fun q => decide (q.1 = (b : Int))).map (·.2) else []
def insL (b : Nat) (xs : List Ix) : List Int := xs.flatMap fun x => prL b x.frm.length x
def goL (par N : Nat) (l : List Bx) (b : Nat) (js : List Nat) : List Int := js.flatMap fun j => ints (livesL par N l j 0) ++ insL b (insAt l j)
theorem prL_mem {b m r : Nat} {x : Ix} : (r : Int) ∈ prL b m x ↔ x.op = 22 ∧ ((b : Int), (r : Int)) ∈ (x.frm.zip x.args).take m := by
  unfold prL
  by_cases e : x.op = 22
  · simp only [e, if_true, true_and, List.mem_map, List.mem_filter, decide_eq_true_eq]
    constructor
    · rintro ⟨⟨q1, q2⟩, ⟨h1, h2⟩, h3⟩
      simp only at h2 h3
      subst h2
      subst h3
      exact h1
    · intro h
      exact ⟨_, ⟨h, rfl⟩, rfl⟩
  · simp [e]
theorem insL_mem {b r : Nat} {xs : List Ix} : (r : Int) ∈ insL b xs ↔ phiT b xs r = true := by
  unfold insL phiT
  rw [List.mem_flatMap, List.any_eq_true]
  constructor
  · rintro ⟨x, hx, h⟩
    obtain ⟨h1, h2⟩ := prL_mem.1 h
    rw [List.take_of_length_le (by rw [List.length_zip]; omega)] at h2
    exact ⟨x, hx, by simp [h1, h2]⟩
  · rintro ⟨x, hx, h⟩
    simp only [Bool.and_eq_true, decide_eq_true_eq] at h
    exact ⟨x, hx, prL_mem.2 ⟨h.1, by rw [List.take_of_length_le (by rw [List.length_zip]; omega)]; exact h.2⟩⟩
theorem goL_mem {par N : Nat} {l : List Bx} (h : Low l) {b r : Nat} (hb : b < l.length) (hr : r < N) : decide ((r : Int) ∈ ints (endsL par N l b)) = decide ((r : Int) ∈ goL par N l b (succ l b)) := by
  refine decide_eq_decide.2 ?_
  rw [ints_mem, endsL_mem, endB_iff h hb, lv_out]
  unfold goL
  rw [List.mem_flatMap]
  constructor
  · rintro ⟨_, j, hj, hv⟩
    refine ⟨j, hj, List.mem_append.2 ?_⟩
    rcases hv with e | e
    · exact .inl (ints_mem.2 (livesL_mem.2 ⟨hr, (livB_iff h (succ_lt h b hb j hj) (Nat.zero_le _)).2 e⟩))
    · exact .inr (insL_mem.2 e)
  · rintro ⟨j, hj, hv⟩
    refine ⟨hr, j, hj, ?_⟩
    rcases List.mem_append.1 hv with e | e
    · exact .inl ((livB_iff h (succ_lt h b hb j hj) (Nat.zero_le _)).1 (livesL_mem.1 (ints_mem.1 e)).2)
    · exact .inr (insL_mem.1 e)
/-! step by step -/
theorem prL_zero (b : Nat) (x : Ix) : prL b 0 x = [] := by unfold prL; split <;> simp
theorem prL_yes {b m : Nat} {x : Ix} {u : Int} (h22 : x.op = 22) (hf : x.frm[m]? = some (b : Int)) (ha : x.args[m]? = some u) : prL b (m + 1) x = prL b m x ++ [u] := by
  have hz : (x.frm.zip x.args)[m]? = some ((b : Int), u) := by rw [List.getElem?_zip_eq_some]; exact ⟨hf, ha⟩
  obtain ⟨hk, he⟩ := List.getElem?_eq_some_iff.1 hz
  unfold prL
  rw [if_pos h22, if_pos h22, List.take_succ_eq_append_getElem hk, he, List.filter_append, List.map_append]
  simp
theorem prL_no {b m : Nat} {x : Ix} {c u : Int} (hf : x.frm[m]? = some c) (ha : x.args[m]? = some u) (hc : c ≠ (b : Int)) : prL b (m + 1) x = prL b m x := by
  have hz : (x.frm.zip x.args)[m]? = some (c, u) := by rw [List.getElem?_zip_eq_some]; exact ⟨hf, ha⟩
  obtain ⟨hk, he⟩ := List.getElem?_eq_some_iff.1 hz
  unfold prL
  by_cases e : x.op = 22
  · rw [if_pos e, if_pos e, List.take_succ_eq_append_getElem hk, he, List.filter_append, List.map_append]
    simp [hc]
  · rw [if_neg e, if_neg e]
theorem insL_succ {b k : Nat} {xs : List Ix} {x : Ix} (h : xs[k]? = some x) : insL b (xs.take (k + 1)) = insL b (xs.take k) ++ prL b x.frm.length x := by
  obtain ⟨hk, he⟩ := List.getElem?_eq_some_iff.1 h
  unfold insL
  rw [List.take_succ_eq_append_getElem hk, he, List.flatMap_append]
  simp
theorem goL_succ {par N : Nat} {l : List Bx} {b i j : Nat} {js : List Nat} (h : js[i]? = some j) : goL par N l b (js.take (i + 1)) = (goL par N l b (js.take i) ++ ints (livesL par N l j 0)) ++ insL b (insAt l j) := by
  obtain ⟨hi, he⟩ := List.getElem?_eq_some_iff.1 h
  unfold goL
  rw [List.take_succ_eq_append_getElem hi, he, List.flatMap_append]
  simp
/-! how long they are -/
theorem prL_len (b m : Nat) (x : Ix) : (prL b m x).length ≤ m := by
  unfold prL
  split
  · rw [List.length_map]
    refine Nat.le_trans (List.length_filter_le _ _) ?_
    rw [List.length_take]
    omega
  · simp
theorem insL_len (b : Nat) : ∀ (xs : List Ix), (∀ x ∈ xs, x.frm.length ≤ 16) → (insL b xs).length ≤ 16 * xs.length
  | [], _ => by simp [insL]
  | x :: xs, h => by
    have h1 := insL_len b xs (fun y hy => h y (List.mem_cons_of_mem _ hy))
    have h2 := prL_len b x.frm.length x
    have h3 := h x List.mem_cons_self
    unfold insL at h1 ⊢
    rw [List.flatMap_cons, List.length_append, List.length_cons]
    omega
theorem livesL_len (par N : Nat) (l : List Bx) (b pl : Nat) : (livesL par N l b pl).length ≤ N := by
  unfold livesL
  refine Nat.le_trans (List.length_filter_le _ _) ?_
  rw [List.length_range]
  exact Nat.le_refl _
theorem frm_few {N : Nat} {l : List Bx} (h : Regs N l) {b : Bx} (hb : b ∈ l) {x : Ix} (hx : x ∈ b.ins) : x.frm.length ≤ 16 := by
  by_cases e : x.op = 22
  · rw [(h.phi b hb x hx e).1]; exact h.few b hb x hx
  · rw [h.other b hb x hx e]; simp
theorem insAt_facts {N : Nat} {l : List Bx} (h : Regs N l) {j : Nat} (hj : j < l.length) : (insAt l j).length ≤ 128 ∧ ∀ x ∈ insAt l j, x.frm.length ≤ 16 ∧ x.args.length ≤ 16 ∧ (x.op = 22 → x.frm.length = x.args.length) ∧ (x.op ≠ 22 → x.frm = []) := by
  have hm : l[j] ∈ l := List.getElem_mem hj
  have e : insAt l j = l[j].ins := by unfold insAt; rw [List.getElem?_eq_getElem hj]; rfl
  rw [e]
  refine ⟨Nat.le_trans (fewer hm) h.many, fun x hx => ⟨frm_few h hm hx, h.few _ hm x hx, fun e => (h.phi _ hm x hx e).1, fun e => h.other _ hm x hx e⟩⟩
theorem insL_few {N : Nat} {l : List Bx} (h : Regs N l) {b j : Nat} (hj : j < l.length) (k : Nat) : (insL b ((insAt l j).take k)).length ≤ 2048 := by
  obtain ⟨h1, h2⟩ := insAt_facts h hj
  have := insL_len b ((insAt l j).take k) (fun x hx => (h2 x (List.mem_of_mem_take hx)).1)
  have h3 : ((insAt l j).take k).length ≤ 128 := by rw [List.length_take]; omega
  omega
theorem goL_len {par N : Nat} {l : List Bx} (h : Regs N l) {b : Nat} : ∀ (js : List Nat), (∀ j ∈ js, j < l.length) → (goL par N l b js).length ≤ js.length * (N + 2048)
  | [], _ => by simp [goL]
  | j :: js, hj => by
    have h1 := goL_len (par := par) (b := b) h js (fun i hi => hj i (List.mem_cons_of_mem _ hi))
    have h2 := insL_few (b := b) h (hj j List.mem_cons_self) (insAt l j).length
    rw [List.take_length] at h2
    have h3 := livesL_len par N l j 0
    unfold goL at h1 ⊢
    rw [List.flatMap_cons, List.length_append, List.length_append, ints_length, List.length_cons, Nat.add_mul, Nat.one_mul]
    omega
theorem goL_few {par N : Nat} {l : List Bx} (h : Regs N l) (hN : N ≤ 20200) {b : Nat} {js : List Nat} (hj : ∀ j ∈ js, j < l.length) (h2 : js.length ≤ 2) (i : Nat) : (goL par N l b (js.take i)).length ≤ 50000 := by
  have h1 := goL_len (par := par) (b := b) h (js.take i) (fun c hc => hj c (List.mem_of_mem_take hc))
  have h3 : (js.take i).length ≤ 2 := by rw [List.length_take]; omega
  obtain ⟨K, hK⟩ : ∃ K, K = N + 2048 := ⟨_, rfl⟩
  rw [← hK] at h1
  have h4 : (js.take i).length * K ≤ 2 * K := Nat.mul_le_mul_right _ h3
  have h5 := Nat.le_trans h1 h4
  omega
end Go.Proofs.YtkcocgdgmlmflaaGreatDoor.LgD
namespace Go.Proofs.YtkcocgdgmlmflaaGreatDoor.LvW
open TyM ShM ShP FwM FwC FwP FwQ FwB FxL LvM LvQ

section
variable (l : List Bx) (own : Nat → Nat → Nat) (r : Nat)
/-- what becomes of it on from a block's beginning -/
def win (j : Nat) : Option Bool := within own r j (endAt l j) 0 (insAt l j)
/-- where it goes through -/
def passT (b : Nat) : List Nat := (succ l b).filter fun j => decide (win l own r j = none)
/-- it is read at the block's end, or in one that it goes to -/
def hitB (b : Nat) : Bool := (succ l b).any fun j => byPhi l r b j || decide (win l own r j = some true)
end
variable {l : List Bx} {own : Nat → Nat → Nat} {r : Nat}
theorem pass_lt (h : Low l) : ∀ i, i < l.length → ∀ j ∈ passT l own r i, j < l.length := fun i hi j hj => succ_lt h i hi j (List.mem_filter.1 hj).1
theorem lv_begin (j : Nat) : Lv l own r j 0 ↔ win l own r j = some true ∨ (win l own r j = none ∧ Lv l own r j ((insAt l j).length + 1)) := within_lv (insAt l j) j 0 rfl (Nat.zero_le _)
theorem hit_end {c : Nat} (h : hitB l own r c = true) : Lv l own r c ((insAt l c).length + 1) := by
  obtain ⟨j, hj, hv⟩ := List.any_eq_true.1 h
  rcases Bool.or_eq_true_iff.1 hv with e | e
  · exact .phi hj e
  · exact .go hj ((lv_begin j).2 (.inl (of_decide_eq_true e)))
/-- WAYS TO WHERE IT IS READ -/
theorem ways_iff (b : Nat) : Lv l own r b ((insAt l b).length + 1) ↔ ∃ c, FwM.Comes (passT l own r) b c ∧ hitB l own r c = true := by
  constructor
  · have key : ∀ {b k : Nat}, Lv l own r b k → (k ≤ (insAt l b).length → (within own r b (endAt l b) k ((insAt l b).drop k) = some true ∨ (within own r b (endAt l b) k ((insAt l b).drop k) = none ∧ ∃ c, FwM.Comes (passT l own r) b c ∧ hitB l own r c = true))) ∧ (k = (insAt l b).length + 1 → ∃ c, FwM.Comes (passT l own r) b c ∧ hitB l own r c = true) := by
      intro b k h
      induction h with
      | @read b k x hx hr =>
        have hlt := (List.getElem?_eq_some_iff.1 hx).1
        refine ⟨fun _ => .inl ?_, fun e => by omega⟩
        rw [List.drop_eq_getElem_cons hlt]
        unfold within
        rw [show (insAt l b)[k] = x from (List.getElem?_eq_some_iff.1 hx).2, if_pos hr]
      | @next b k hlt hne _ ih =>
        refine ⟨fun _ => ?_, fun e => by omega⟩
        have i1 := ih.1 hlt
        rw [List.drop_eq_getElem_cons hlt]
        unfold within
        by_cases hr : readsI r (insAt l b)[k] = true
        · rw [if_pos hr]; exact .inl rfl
        · rw [if_neg hr, if_neg hne]; exact i1
      | @ends b he =>
        refine ⟨fun _ => .inl ?_, fun e => by omega⟩
        rw [List.drop_length]
        unfold within
        rw [if_pos he]
      | @fall b _ ih =>
        have i2 := ih.2 rfl
        refine ⟨fun _ => ?_, fun e => by omega⟩
        rw [List.drop_length]
        unfold within
        by_cases he : (r : Int) ∈ endsOf (endAt l b)
        · rw [if_pos he]; exact .inl rfl
        · rw [if_neg he]; exact .inr ⟨rfl, i2⟩
      | @go b j hj _ ih =>
        refine ⟨fun e => by omega, fun _ => ?_⟩
        have i1 := ih.1 (Nat.zero_le _)
        rw [List.drop_zero] at i1
        rcases i1 with e | ⟨e, c, hc, hh⟩
        · exact ⟨b, .here, List.any_eq_true.2 ⟨j, hj, by rw [Bool.or_eq_true]; exact .inr (decide_eq_true e)⟩⟩
        · exact ⟨c, (FwM.Comes.one (List.mem_filter.2 ⟨hj, decide_eq_true e⟩)).trans hc, hh⟩
      | @phi b j hj hp =>
        refine ⟨fun e => by omega, fun _ => ⟨b, .here, List.any_eq_true.2 ⟨j, hj, by rw [hp]; rfl⟩⟩⟩
    exact fun h => (key h).2 rfl
  · rintro ⟨c, hc, hh⟩
    have back : ∀ {c}, FwM.Comes (passT l own r) b c → Lv l own r c ((insAt l c).length + 1) → Lv l own r b ((insAt l b).length + 1) := by
      intro c hc
      induction hc with
      | here => exact fun h => h
      | step _ hm ih =>
        intro h
        obtain ⟨h1, h2⟩ := List.mem_filter.1 hm
        exact ih (.go h1 ((lv_begin _).2 (.inr ⟨of_decide_eq_true h2, h⟩)))
    exact back hc (hit_end hh)
/-- as the law tells it -/
theorem ways_lv {b pl : Nat} (hp : pl ≤ (insAt l b).length) {seen : List Nat} (hs : within own r b (endAt l b) pl ((insAt l b).drop pl) = none → Bfs (passT l own r) l.length b seen.length seen) (hn : within own r b (endAt l b) pl ((insAt l b).drop pl) ≠ none → seen = []) :
    (decide (within own r b (endAt l b) pl ((insAt l b).drop pl) = some true) || seen.any (hitB l own r)) = true ↔ Lv l own r b pl := by
  rw [within_lv ((insAt l b).drop pl) b pl rfl hp]
  rw [Bool.or_eq_true, decide_eq_true_iff]
  constructor
  · rintro (e | e)
    · exact .inl e
    · obtain ⟨c, hc, hh⟩ := List.any_eq_true.1 e
      by_cases hw : within own r b (endAt l b) pl ((insAt l b).drop pl) = none
      · exact .inr ⟨hw, (ways_iff b).2 ⟨c, ((hs hw).all c).1 hc, hh⟩⟩
      · rw [hn hw] at hc; cases hc
  · rintro (e | ⟨e, hl⟩)
    · exact .inl e
    · obtain ⟨c, hc, hh⟩ := (ways_iff b).1 hl
      exact .inr (List.any_eq_true.2 ⟨c, ((hs e).all c).2 hc, hh⟩)
end Go.Proofs.YtkcocgdgmlmflaaGreatDoor.LvW
namespace Go.Proofs.YtkcocgdgmlmflaaGreatDoor.LiM
open TyM ShM ShP FwM FwC FwP FwQ FwB FdQ FxL LvM LvQ LvW LuM LgD

/-- one of so many registers from fr on -/
def ownd (fr k : Nat) (r : Int) : Bool := decide ((fr : Int) ≤ r ∧ r < ((fr + k : Nat) : Int))
theorem ownd_iff {fr k r : Nat} : ownd fr k (r : Int) = true ↔ fr ≤ r ∧ r < fr + k := by
  unfold ownd
  rw [decide_eq_true_iff]
  omega
/-- those of a list that are none of these -/
def outs (fr k : Nat) (l : List Int) : List Int := l.filter fun r => !ownd fr k r
theorem outs_succ {fr k i : Nat} {l : List Int} {c : Int} (h : l[i]? = some c) : outs fr k (l.take (i + 1)) = outs fr k (l.take i) ++ (if ownd fr k c = true then [] else [c]) := by
  obtain ⟨hi, he⟩ := List.getElem?_eq_some_iff.1 h
  unfold outs
  rw [List.take_succ_eq_append_getElem hi, he, List.filter_append]
  congr 1
  by_cases e : ownd fr k c = true
  · simp [e]
  · simp [e]
theorem outs_len (fr k : Nat) (l : List Int) : (outs fr k l).length ≤ l.length := List.length_filter_le _ _
/-- what the first instructions read, each ahead of its own -/
def readK (fr : Nat) (xs : List Ix) : Nat → List Int
  | 0 => []
  | k + 1 => readK fr xs k ++ (match xs[k]? with | some x => outs fr k (LuM.seen x) | none => [])
def cutR (fr : Nat) (xs : List Ix) (en : Ex) : List Int := readK fr xs xs.length ++ outs fr xs.length (endsOf en)
theorem readK_succ {fr k : Nat} {xs : List Ix} {x : Ix} (h : xs[k]? = some x) : readK fr xs (k + 1) = readK fr xs k ++ outs fr k (LuM.seen x) := by
  show readK fr xs k ++ _ = _
  rw [h]
theorem seen_reads {r : Nat} {x : Ix} : (r : Int) ∈ LuM.seen x ↔ readsI r x = true := by
  unfold LuM.seen readsI
  by_cases e : x.op = 22
  · simp [e]
  · simp [e]
theorem outs_mem {fr k r : Nat} {l : List Int} : (r : Int) ∈ outs fr k l ↔ (r : Int) ∈ l ∧ ¬ (fr ≤ r ∧ r < fr + k) := by
  unfold outs
  rw [List.mem_filter, ← ownd_iff]
  cases ownd fr k (r : Int) <;> simp
theorem readK_mem {fr : Nat} {xs : List Ix} {r : Nat} : ∀ {k : Nat}, (r : Int) ∈ readK fr xs k ↔ ∃ i x, i < k ∧ xs[i]? = some x ∧ readsI r x = true ∧ ¬ (fr ≤ r ∧ r < fr + i)
  | 0 => by simp [readK]
  | k + 1 => by
    show (r : Int) ∈ readK fr xs k ++ _ ↔ _
    rw [List.mem_append, readK_mem (k := k)]
    constructor
    · rintro (⟨i, x, h1, h2⟩ | h)
      · exact ⟨i, x, by omega, h2⟩
      · cases e : xs[k]? with
        | none => rw [e] at h; cases h
        | some x =>
          rw [e] at h
          obtain ⟨h1, h2⟩ := outs_mem.1 h
          exact ⟨k, x, by omega, e, seen_reads.1 h1, h2⟩
    · rintro ⟨i, x, h1, h2, h3, h4⟩
      by_cases e : i = k
      · subst e
        refine .inr ?_
        rw [h2]
        exact outs_mem.2 ⟨seen_reads.2 h3, h4⟩
      · exact .inl ⟨i, x, by omega, h2, h3, h4⟩
section
variable {own : Nat → Nat → Nat} {r b : Nat} {en : Ex}
theorem within_true : ∀ (xs : List Ix) (k : Nat), within own r b en k xs = some true ↔ (∃ i x, xs[i]? = some x ∧ readsI r x = true ∧ ∀ j, j < i → own b (k + j) ≠ r) ∨ ((r : Int) ∈ endsOf en ∧ ∀ j, j < xs.length → own b (k + j) ≠ r)
  | [], k => by
    unfold within
    by_cases h : (r : Int) ∈ endsOf en <;> simp [h]
  | x :: xs, k => by
    unfold within
    by_cases h1 : readsI r x = true
    · rw [if_pos h1]
      exact ⟨fun _ => .inl ⟨0, x, rfl, h1, by omega⟩, fun _ => rfl⟩
    · rw [if_neg h1]
      by_cases h2 : own b k = r
      · rw [if_pos h2]
        constructor
        · intro h; cases h
        · rintro (⟨i, y, hy, hr, hj⟩ | ⟨_, hj⟩)
          · cases i with
            | zero => cases hy; exact absurd hr h1
            | succ i => exact absurd h2 (hj 0 (by omega))
          · exact absurd h2 (hj 0 (by simp))
      · rw [if_neg h2, within_true xs (k + 1)]
        constructor
        · rintro (⟨i, y, hy, hr, hj⟩ | ⟨he, hj⟩)
          · refine .inl ⟨i + 1, y, hy, hr, fun j h => ?_⟩
            cases j with
            | zero => exact h2
            | succ j => have := hj j (by omega); rwa [show k + 1 + j = k + (j + 1) by omega] at this
          · refine .inr ⟨he, fun j h => ?_⟩
            cases j with
            | zero => exact h2
            | succ j => have := hj j (by simp at h; omega); rwa [show k + 1 + j = k + (j + 1) by omega] at this
        · rintro (⟨i, y, hy, hr, hj⟩ | ⟨he, hj⟩)
          · cases i with
            | zero => cases hy; exact absurd hr h1
            | succ i =>
              refine .inl ⟨i, y, hy, hr, fun j h => ?_⟩
              have := hj (j + 1) (by omega); rwa [show k + (j + 1) = k + 1 + j by omega] at this
          · refine .inr ⟨he, fun j h => ?_⟩
            have := hj (j + 1) (by simp; omega); rwa [show k + (j + 1) = k + 1 + j by omega] at this
theorem within_none : ∀ (xs : List Ix) (k : Nat), within own r b en k xs = none ↔ within own r b en k xs ≠ some true ∧ ∀ j, j < xs.length → own b (k + j) ≠ r
  | [], k => by
    unfold within
    by_cases h : (r : Int) ∈ endsOf en <;> simp [h]
  | x :: xs, k => by
    unfold within
    by_cases h1 : readsI r x = true
    · rw [if_pos h1]; simp
    · rw [if_neg h1]
      by_cases h2 : own b k = r
      · rw [if_pos h2]
        constructor
        · intro h; cases h
        · rintro ⟨_, h⟩; exact absurd h2 (h 0 (by simp))
      · rw [if_neg h2, within_none xs (k + 1)]
        constructor
        · rintro ⟨ha, hb⟩
          refine ⟨ha, fun j h => ?_⟩
          cases j with
          | zero => exact h2
          | succ j => have := hb j (by simp at h; omega); rwa [show k + 1 + j = k + (j + 1) by omega] at this
        · rintro ⟨ha, hb⟩
          refine ⟨ha, fun j h => ?_⟩
          have := hb (j + 1) (by simp; omega); rwa [show k + (j + 1) = k + 1 + j by omega] at this
/-- a block's cut reads a register just if it is read, ahead of its own instruction -/
theorem cut_true {fr k : Nat} {xs : List Ix} (h : ∀ j, j < xs.length → own b (k + j) = fr + j) : (r : Int) ∈ cutR fr xs en ↔ within own r b en k xs = some true := by
  have hj : ∀ n, n ≤ xs.length → ((∀ j, j < n → own b (k + j) ≠ r) ↔ ¬ (fr ≤ r ∧ r < fr + n)) := by
    intro n hn
    constructor
    · rintro ha ⟨h1, h2⟩
      exact ha (r - fr) (by omega) (by rw [h _ (by omega)]; omega)
    · intro ha j hj e
      rw [h j (by omega)] at e
      exact ha ⟨by omega, by omega⟩
  unfold cutR
  rw [List.mem_append, readK_mem, outs_mem, within_true]
  constructor
  · rintro (⟨i, x, h1, h2, h3, h4⟩ | ⟨h1, h2⟩)
    · exact .inl ⟨i, x, h2, h3, (hj i (by omega)).2 h4⟩
    · exact .inr ⟨h1, (hj _ (Nat.le_refl _)).2 h2⟩
  · rintro (⟨i, x, h2, h3, h4⟩ | ⟨h1, h2⟩)
    · have := (List.getElem?_eq_some_iff.1 h2).1
      exact .inl ⟨i, x, this, h2, h3, (hj i (by omega)).1 h4⟩
    · exact .inr ⟨h1, (hj _ (Nat.le_refl _)).1 h2⟩
theorem cut_none {fr k : Nat} {xs : List Ix} (h : ∀ j, j < xs.length → own b (k + j) = fr + j) : within own r b en k xs = none ↔ ¬ (r : Int) ∈ cutR fr xs en ∧ ownd fr xs.length (r : Int) = false := by
  rw [within_none, cut_true h]
  refine and_congr_right fun _ => ?_
  rw [← Bool.not_eq_true, ownd_iff]
  constructor
  · rintro ha ⟨h1, h2⟩
    exact ha (r - fr) (by omega) (by rw [h _ (by omega)]; omega)
  · intro ha j hj e
    rw [h j hj] at e
    exact ha ⟨by omega, by omega⟩
end
/-- a block's first register -/
def frB (par : Nat) (l : List Bx) (b : Nat) : Nat := par + manyB (l.take b)
theorem own_fr (par : Nat) (l : List Bx) (b pl : Nat) (n : Nat) : ∀ j, j < n → ownN par l b (pl + j) = (frB par l b + pl) + j := by
  intro j _
  unfold ownN frB
  omega
/-- what a block reads, each ahead of its own instruction -/
def rdB (par : Nat) (l : List Bx) (b : Nat) : List Int := cutR (frB par l b) (insAt l b) (endAt l b)
theorem win_true {par : Nat} {l : List Bx} {b r : Nat} : (r : Int) ∈ rdB par l b ↔ win l (ownN par l) r b = some true := by
  unfold rdB win
  refine cut_true fun j hj => ?_
  have := own_fr par l b 0 _ j hj
  simpa using this
theorem win_none {par : Nat} {l : List Bx} {b r : Nat} : win l (ownN par l) r b = none ↔ ¬ (r : Int) ∈ rdB par l b ∧ ownd (frB par l b) (insAt l b).length (r : Int) = false := by
  unfold rdB win
  refine cut_none fun j hj => ?_
  have := own_fr par l b 0 _ j hj
  simpa using this
/-- what lives at a place, by a cut -/
theorem livB_cut (par : Nat) (l : List Bx) (b pl r : Nat) : livB par l b pl r = (decide ((r : Int) ∈ cutR (frB par l b + pl) ((insAt l b).drop pl) (endAt l b)) || (!ownd (frB par l b + pl) ((insAt l b).drop pl).length (r : Int) && endB par l b r)) := by
  have h1 := cut_true (r := r) (b := b) (en := endAt l b) (own_fr par l b pl ((insAt l b).drop pl).length)
  have h2 := cut_none (r := r) (b := b) (en := endAt l b) (own_fr par l b pl ((insAt l b).drop pl).length)
  unfold livB
  cases e : within (ownN par l) r b (endAt l b) pl ((insAt l b).drop pl) with
  | none =>
    obtain ⟨h3, h4⟩ := h2.1 e
    rw [h4, decide_eq_false h3]
    simp
  | some t =>
    cases t with
    | true => rw [decide_eq_true (h1.2 e)]; simp
    | false =>
      have h3 : ¬ (r : Int) ∈ cutR (frB par l b + pl) ((insAt l b).drop pl) (endAt l b) := fun h => by rw [h1.1 h] at e; cases e
      have h4 : ownd (frB par l b + pl) ((insAt l b).drop pl).length (r : Int) = true := by
        cases h5 : ownd (frB par l b + pl) ((insAt l b).drop pl).length (r : Int) with
        | true => rfl
        | false => rw [h2.2 ⟨h3, h5⟩] at e; cases e
      rw [decide_eq_false h3, h4]
      simp
/-! phis -/
def phL (b : Nat) (l : List Bx) (js : List Nat) : List Int := js.flatMap fun j => insL b (insAt l j)
theorem phL_mem {b r : Nat} {l : List Bx} {js : List Nat} : (r : Int) ∈ phL b l js ↔ ∃ j ∈ js, byPhi l r b j = true := by
  unfold phL
  rw [List.mem_flatMap]
  constructor
  · rintro ⟨j, hj, h⟩; exact ⟨j, hj, insL_mem.1 h⟩
  · rintro ⟨j, hj, h⟩; exact ⟨j, hj, insL_mem.2 h⟩
theorem phL_succ {b i j : Nat} {l : List Bx} {js : List Nat} (h : js[i]? = some j) : phL b l (js.take (i + 1)) = phL b l (js.take i) ++ insL b (insAt l j) := by
  obtain ⟨hi, he⟩ := List.getElem?_eq_some_iff.1 h
  unfold phL
  rw [List.take_succ_eq_append_getElem hi, he, List.flatMap_append]
  simp
theorem phL_few {N : Nat} {l : List Bx} (h : Regs N l) {b : Nat} {js : List Nat} (hj : ∀ j ∈ js, j < l.length) (h2 : js.length ≤ 2) (i : Nat) : (phL b l (js.take i)).length ≤ 4096 := by
  have key : ∀ (js : List Nat), (∀ j ∈ js, j < l.length) → (phL b l js).length ≤ 2048 * js.length := by
    intro js
    induction js with
    | nil => intro _; simp [phL]
    | cons j js ih =>
      intro hj
      have h1 := ih fun i hi => hj i (List.mem_cons_of_mem _ hi)
      have h3 := insL_few (b := b) h (hj j List.mem_cons_self) (insAt l j).length
      rw [List.take_length] at h3
      unfold phL at h1 ⊢
      rw [List.flatMap_cons, List.length_append, List.length_cons]
      omega
  have h1 := key (js.take i) fun j h => hj j (List.mem_of_mem_take h)
  have h3 : (js.take i).length ≤ 2 := by rw [List.length_take]; omega
  omega
/-! the search -/
section
variable {l : List Bx} {own : Nat → Nat → Nat} {r b : Nat}
/-- what is known of those looked at: there it is not read, and where ways go on is begun -/
def Done (l : List Bx) (own : Nat → Nat → Nat) (r : Nat) (G : List Nat) (k : Nat) : Prop := hitB l own r k = false ∧ ∀ j ∈ passT l own r k, j ∈ G
/-- what are to be looked at, and what are begun -/
structure Srch (l : List Bx) (own : Nat → Nat → Nat) (r b : Nat) (A G : List Nat) : Prop where
  home : b < l.length
  come : ∀ k, k ∈ A ∨ k ∈ G → FwM.Comes (passT l own r) b k
  rest : ∀ k, k = b ∨ k ∈ G → k ∈ A ∨ Done l own r G k
  one : A.Nodup
  each : G.Nodup
  sub : A = [b] ∧ G = [] ∨ ∀ k ∈ A, k ∈ G
theorem srch_start (h : b < l.length) : Srch l own r b [b] [] := by
  refine ⟨h, fun k hk => ?_, fun k hk => ?_, by simp, by simp, .inl ⟨rfl, rfl⟩⟩
  · rcases hk with h | h
    · rw [List.mem_singleton.1 h]; exact .here
    · cases h
  · rcases hk with rfl | h
    · exact .inl (by simp)
    · cases h
/-- nothing is left: there is no way -/
theorem Srch.none {G : List Nat} (h : Srch l own r b [] G) : ¬ Lv l own r b ((insAt l b).length + 1) := by
  rw [ways_iff]
  rintro ⟨c, hc, hh⟩
  have key : ∀ {c}, FwM.Comes (passT l own r) b c → c = b ∨ c ∈ G := by
    intro c hc
    induction hc with
    | here => exact .inl rfl
    | step _ hm ih =>
      rcases h.rest _ ih with e | e
      · cases e
      · exact .inr (e.2 _ hm)
  rcases h.rest c (key hc) with e | e
  · cases e
  · rw [e.1] at hh; cases hh
theorem Srch.some {A G : List Nat} (h : Srch l own r b A G) {k : Nat} (hk : k ∈ A) (hh : hitB l own r k = true) : Lv l own r b ((insAt l b).length + 1) := (ways_iff b).2 ⟨k, h.come k (.inl hk), hh⟩
/-- k is looked at -/
theorem Srch.step {A G new : List Nat} (h : Srch l own r b A G) {k : Nat} (hk : k ∈ A) (hh : hitB l own r k = false) (hn : (G ++ new).Nodup) (hp : ∀ j ∈ new, j ∈ passT l own r k) (ha : ∀ j ∈ passT l own r k, j ∈ G ++ new) : Srch l own r b (A.erase k ++ new) (G ++ new) := by
  have hsub : ∀ j ∈ A.erase k, j ∈ G := by
    intro j hj
    rcases h.sub with ⟨rfl, _⟩ | e
    · have := List.mem_singleton.1 hk
      subst this
      simp at hj
    · exact e j (List.mem_of_mem_erase hj)
  obtain ⟨n1, n2, n3⟩ := List.nodup_append.1 hn
  refine ⟨h.home, fun j hj => ?_, fun j hj => ?_, ?_, hn, .inr fun j hj => ?_⟩
  · have hnew : j ∈ new → FwM.Comes (passT l own r) b j := fun e => (h.come k (.inl hk)).step (hp j e)
    rcases hj with e | e
    · rcases List.mem_append.1 e with e | e
      · exact h.come j (.inl (List.mem_of_mem_erase e))
      · exact hnew e
    · rcases List.mem_append.1 e with e | e
      · exact h.come j (.inr e)
      · exact hnew e
  · by_cases ek : j = k
    · exact .inr ⟨ek ▸ hh, ek ▸ ha⟩
    · have old : j = b ∨ j ∈ G → j ∈ A.erase k ++ new ∨ Done l own r (G ++ new) j := fun e => by
        rcases h.rest j e with e | e
        · exact .inl (List.mem_append.2 (.inl ((List.mem_erase_of_ne ek).2 e)))
        · exact .inr ⟨e.1, fun i hi => List.mem_append.2 (.inl (e.2 i hi))⟩
      rcases hj with e | e
      · exact old (.inl e)
      · rcases List.mem_append.1 e with e | e
        · exact old (.inr e)
        · exact .inl (List.mem_append.2 (.inr e))
  · exact List.nodup_append.2 ⟨h.one.erase k, n2, fun x hx y hy => n3 x (hsub x hx) y hy⟩
  · rcases List.mem_append.1 hj with e | e
    · exact List.mem_append.2 (.inl (hsub j e))
    · exact List.mem_append.2 (.inr e)
theorem Srch.lt (hlow : Low l) {A G : List Nat} (h : Srch l own r b A G) {k : Nat} (hk : k ∈ A ∨ k ∈ G) : k < l.length := (h.come k hk).lt (pass_lt hlow) h.home
end
end Go.Proofs.YtkcocgdgmlmflaaGreatDoor.LiM
namespace Go.Proofs.YtkcocgdgmlmflaaGreatDoor.LiA
open Go.RowKit Go.Lib SetP SetO SetNum SetIn SetWith SetT SetW2 SetF SetC BitOfP BitOf BitHas ShP Aft FwQ FwR LiM

/-- registers' numbers are small -/
def Lows (l : List Int) : Prop := ∀ n ∈ l, 0 ≤ n ∧ n < 1048576
theorem of_ok (l : List Int) : ∀ x ∈ ofS l, WdOk x := fun x hx => by
  obtain ⟨a, b, c, d⟩ := (of_may l).1 x hx
  exact ⟨by omega, by omega, by omega, d⟩
theorem of_has {l : List Int} (h : Lows l) {r : Int} (h0 : 0 ≤ r) (h1 : r < 1048576) : hasB (ofS l) r = decide (r ∈ l) := by
  have e : ofS l = withAll [] l := if_pos (okL_iff.2 h)
  unfold hasB hasS
  rw [if_pos (of_may l), if_pos ⟨h0, h1⟩, e]
  show inS (withAll [] l) r = _
  rw [inS_all l mayw_nil h r h0]
  rfl
theorem of_len (l : List Int) : (ofS l).length ≤ 16384 := may_length (of_may l)
/-- a set in new memory -/
def NewSt (B : Nat) (w : World) (v : Value) (s : List Wd) : Prop := w.ownsRow B 126 2 v s.length (wdVals s)
theorem newSt_of {w : World} {B n : Nat} {v : Value} {s : List Wd} (h : w.ownsRow B 126 2 v n (wdVals s)) : NewSt B w v s := by
  obtain rfl : n = s.length := by have := h.1; rw [wdVals_length] at this; omega
  exact h
theorem NewSt.at {w : World} {B : Nat} {v : Value} {l : List Int} (h : NewSt B w v (ofS l)) : SetAt w v (ofS l) := setAt_of_owns h (by have := of_len l; omega)
theorem SetAt.slice {w : World} {v : Value} {s : List Wd} (h : SetAt w v s) : ∃ ao c, v = .slice ao s.length c := by
  obtain ⟨ao, c, rfl, _⟩ := h
  exact ⟨ao, c, rfl⟩

/-- has -/
theorem has_c (v : Value) (l : List Int) (hl : Lows l) (r : Int) (h0 : 0 ≤ r) (h1 : r < 1048576) (w : World) (hs : SetAt w v (ofS l)) :
    Calls Tryz.prog 36 #[v, .int .i64 r] w fun e w' => e = .returned (.bool (decide (r ∈ l))) ∧ Below w.heap.size w w' := by
  have HC := hid (has_calls v (ofS l) r w hs (of_ok l))
  rw [of_has hl h0 h1] at HC
  obtain ⟨ao, c, rfl⟩ := SetAt.slice hs
  clear hs
  generalize hasE (ofS l) r = er at *
  generalize decide (r ∈ l) = b at *
  generalize (ofS l).length = n at *
  go_enter Tryz.func36, Tryz.ntmps36
  go_wp2_with fail
  refine HC.out.mono ?_
  rintro e w1 ⟨rfl, hb1⟩
  go_wp2
  go_ret
  exact ⟨rfl, hb1⟩
/-- set -/
theorem set_c (v : Value) (l : List Int) (w : World) (hl : IntsAt w v l) :
    Calls Tryz.prog 35 #[v] w fun e w' => ∃ u, e = .returned u ∧ NewSt w.heap.size w' u (ofS l) ∧ Below w.heap.size w w' := by
  have HC := hid (of_calls v l w hl)
  obtain ⟨ao, c, rfl, _⟩ := hl
  generalize ofE l = er at *
  generalize ofS l = s at *
  go_enter Tryz.func35, Tryz.ntmps35
  go_wp2_with fail
  refine HC.out.mono ?_
  rintro e w1 ⟨u, m, rfl, ho, hb1⟩
  have HN := hid (newSt_of ho)
  obtain ⟨ua, uc, rfl⟩ := RwO.own_form HN.out
  clear ho
  go_wp2
  go_ret
  exact ⟨_, rfl, HN.out, hb1⟩
/-- reads -/
theorem reads_c (v : Value) (l : List Int) (hl : Lows l) (fr th r : Int) (h0 : 0 ≤ r) (h1 : r < 1048576) (w : World) (hs : SetAt w v (ofS l)) :
    Calls Tryz.prog 19 #[.agg #[v, .int .i64 fr, .int .i64 th], .int .i64 r] w fun e w' => e = .returned (.bool (decide (r ∈ l))) ∧ Below w.heap.size w w' := by
  obtain ⟨ao, c, rfl⟩ := SetAt.slice hs
  have hb0 := alloc_below w (.cells #[.slice ao (ofS l).length c, .int .i64 fr, .int .i64 th] 58)
  have HC := hid (has_c _ l hl r h0 h1 _ (hs.below hb0))
  clear hs
  generalize decide (r ∈ l) = b at *
  generalize (ofS l).length = n at *
  go_enter Tryz.func19, Tryz.ntmps19
  go_wp2_with fail
  refine HC.out.mono ?_
  rintro e w1 ⟨rfl, hb1⟩
  have HB := hid (hb0.trans (hb1.mono hb0.size))
  clear hb0 hb1 HC
  go_wp2
  go_ret
  exact ⟨rfl, HB.out⟩
/-- owns -/
theorem owns_c (ao : Option Addr) (n c : Nat) (fr th r : Int) (w : World) :
    Calls Tryz.prog 20 #[.agg #[.slice ao n c, .int .i64 fr, .int .i64 th], .int .i64 r] w fun e w' => e = .returned (.bool (decide (fr ≤ r ∧ r < th))) ∧ w' = w.alloc (.cells #[.slice ao n c, .int .i64 fr, .int .i64 th] 58) := by
  by_cases h1 : fr ≤ r
  · by_cases h2 : r < th
    · have HE : Hid (Ending.returned (Value.bool true) = Ending.returned (Value.bool (decide (fr ≤ r ∧ r < th)))) := by show _ = _; rw [decide_eq_true ⟨h1, h2⟩]
      generalize decide (fr ≤ r ∧ r < th) = q at *
      go_enter Tryz.func20, Tryz.ntmps20
      go_wp2
      go_ret
      exact ⟨HE.out, rfl⟩
    · have HE : Hid (Ending.returned (Value.bool false) = Ending.returned (Value.bool (decide (fr ≤ r ∧ r < th)))) := by show _ = _; rw [decide_eq_false (fun e => h2 e.2)]
      generalize decide (fr ≤ r ∧ r < th) = q at *
      go_enter Tryz.func20, Tryz.ntmps20
      go_wp2
      go_ret
      exact ⟨HE.out, rfl⟩
  · have HE : Hid (Ending.returned (Value.bool false) = Ending.returned (Value.bool (decide (fr ≤ r ∧ r < th)))) := by show _ = _; rw [decide_eq_false (fun e => h1 e.1)]
    generalize decide (fr ≤ r ∧ r < th) = q at *
    go_enter Tryz.func20, Tryz.ntmps20
    go_wp2
    go_ret
    exact ⟨HE.out, rfl⟩
end Go.Proofs.YtkcocgdgmlmflaaGreatDoor.LiA
namespace Go.Proofs.YtkcocgdgmlmflaaGreatDoor.LiB
open Go.RowKit Go.Lib SetP IntO TyM TyP TyB ShM ShP Aft Fresh FwQ FwR FwO LuM LiM LiA

/-- what cut keeps: where it is, and what is read so far -/
structure CutSt (w0 : World) (Bc Bl fr k : Nat) (v : Value) (L : List Int) (w : World) : Prop where
  box : w.heap[Bc]? = some (.cells #[.slice none 0 0, .int .i64 ((fr : Nat) : Int), .int .i64 ((fr + k : Nat) : Int)] 58 (0, 0))
  lst : Boxed w Bl 28 v
  row : ∃ m, w.ownsRow w0.heap.size 3 1 v m (intVals L)
  bel : Below w0.heap.size w0 w
  old : w0.heap.size ≤ Bl
  old2 : w0.heap.size ≤ Bc
section
variable {w0 w : World} {Bc Bl fr k : Nat} {v : Value} {L : List Int}
theorem CutSt.go (h : CutSt w0 Bc Bl fr k v L w) {w' : World} (hb : Below w.heap.size w w') : CutSt w0 Bc Bl fr k v L w' := by
  obtain ⟨m, hm⟩ := h.row
  exact ⟨(hb.block Bc (Array.getElem?_eq_some_iff.1 h.box).1).trans h.box, (hb.block Bl h.lst.lt).trans h.lst, ⟨m, ownsRow_below hm hb⟩, h.bel.trans (hb.mono h.bel.size), h.old, h.old2⟩
theorem CutSt.away (h : CutSt w0 Bc Bl fr k v L w) {w1 : World} {lv : Value} {l : List Int} (hl : NewI w.heap.size w1 lv l) : Away Bl v w1 lv := by
  intro g off n c e hn
  have h1 := hl.2 g off n c e
  obtain ⟨ao, cap, hv, _, hm, _⟩ := hl.1
  rw [hv] at e
  cases e
  obtain ⟨b, o, hb, hlt, _⟩ := hm hn
  cases hb
  refine ⟨hlt, ?_, fun e => ?_⟩
  · have := h.lst.lt; omega
  · obtain ⟨m, hm⟩ := h.row
    have := (hm.lt g e).2
    omega
theorem CutSt.ne (h : CutSt w0 Bc Bl fr k v L w) : Bc ≠ Bl := by
  intro e
  have h1 := h.box
  have h2 : w.heap[Bl]? = _ := h.lst
  rw [e, h2] at h1
  cases h1
theorem CutSt.cells (h : CutSt w0 Bc Bl fr k v L w) : w.cell? ⟨Bc, 0, none⟩ = some (.slice none 0 0) ∧ w.cell? ⟨Bc, 1, none⟩ = some (.int .i64 ((fr : Nat) : Int)) ∧ w.cell? ⟨Bc, 2, none⟩ = some (.int .i64 ((fr + k : Nat) : Int)) := by
  refine ⟨?_, ?_, ?_⟩
  all_goals (unfold World.cell?; rw [h.box]; simp)
theorem row_box {W : World} {g m : Nat} {u : Value} {xs : List Value} (h : W.ownsRow m 3 1 u g xs) {b : Nat} {cs : Array Value} {T : TypeId} {x : Nat × Nat} (hb : W.heap[b]? = some (.cells cs T x)) (hT : T ≠ 3) : u.ownBlock ≠ some b := by
  intro e
  rcases h.2 with ⟨rfl, _⟩ | ⟨g', cap, cur, rfl, _, hg, _⟩
  · cases e
  · have : g' = b := by simpa [Value.ownBlock] using e
    subst this
    rw [hb] at hg
    cases hg
    exact hT rfl
end
/-- the closure has been run -/
def CutR (w0 : World) (Bc Bl fr k : Nat) (L : List Int) (e : Ending) (w' : World) : Prop := e = .returned (.tuple #[]) ∧ ∃ v', CutSt w0 Bc Bl fr k v' L w'

set_option maxRecDepth 100000 in
set_option maxHeartbeats 8000000 in
theorem cut1_c (w0 : World) (Bc Bl fr k : Nat) (v : Value) (L : List Int) (w : World) (hst : CutSt w0 Bc Bl fr k v L w) (lv : Value) (xs : List Int) (hl : IntsAt w lv xs) (ha : Away Bl v w lv) (hxs : xs.length ≤ 1000) (hL : L.length ≤ 90000) :
    Calls Tryz.prog 32 #[lv, .pointer (some ⟨Bc, 0, none⟩), .pointer (some ⟨Bl, 0, none⟩)] w (CutR w0 Bc Bl fr k (L ++ outs fr k xs)) := by
  obtain ⟨i0, hi, hz0, hz1, hz2⟩ := info_parts info_int
  obtain ⟨la, lc, rfl, _⟩ := ints_slice hl
  have HST := hid hst
  have HL := hid hl
  have HA := hid ha
  have HXS := hid hxs
  have HLL := hid hL
  have HZ : Hid (L ++ outs fr k (xs.take 0) = L) := by show _ = _; simp [outs]
  have HE : Hid (L ++ outs fr k (xs.take xs.length) = L ++ outs fr k xs) := by show _ = _; rw [List.take_length]
  have HS := hid (fun (i : Nat) (c : Int) (h : xs[i]? = some c) => outs_succ (fr := fr) (k := k) h)
  have HO := hid (fun (i : Nat) => outs_len fr k (xs.take i))
  clear hst hl ha hxs hL
  go_enter Tryz.func32, Tryz.ntmps32
  go_wp2_with fail
  go_loopg [8] xs.length (fun gk i wr => ∃ (j : Nat) (v1 : Value), j + gk = xs.length ∧ i = .int .i64 j ∧ CutSt w0 Bc Bl fr k v1 (L ++ outs fr k (xs.take j)) wr ∧ IntsAt wr (.slice la xs.length lc) xs ∧ Away Bl v1 wr (.slice la xs.length lc))
  case atStart => exact ⟨0, v, by omega, rfl, HZ.out.symm ▸ HST.out, HL.out, HA.out⟩
  case round =>
    obtain ⟨j, v1, hj, rfl, hst, hl, ha⟩ := hrel
    have HJ := hid hj
    have HST1 := hid hst
    have HL1 := hid hl
    have HA1 := hid ha
    clear HST HL HA hj
    by_cases hlt : j < xs.length
    · have HLT := hid hlt
      obtain ⟨c, hc⟩ := IntG.some_at hlt
      obtain ⟨b2, o2, rfl, c2⟩ := IntG.int_at hl hc
      have HSC := hid (HS.out j c hc)
      have HOJ : Hid ((outs fr k (xs.take j)).length ≤ 1000) := by
        have h1 := HO.out j
        have h2 : (xs.take j).length ≤ j := by rw [List.length_take]; omega
        have h3 := HXS.out
        show _ ≤ _
        omega
      have hjx : (j : Int) < (xs.length : Int) := by omega
      have hjb : j ≤ 9223372036854775806 := by have := HXS.out; omega
      obtain ⟨q0, q1, q2⟩ := hst.cells
      have hb1 := alloc_below wr (.cells #[.slice none 0 0, .int .i64 ((fr : Nat) : Int), .int .i64 ((fr + k : Nat) : Int)] 58)
      have HOW := hid (owns_c none 0 0 ((fr : Nat) : Int) ((fr + k : Nat) : Int) c wr)
      have HOD : Hid (decide (((fr : Nat) : Int) ≤ c ∧ c < ((fr + k : Nat) : Int)) = ownd fr k c) := rfl
      rw [HOD.out] at HOW
      have HB1 := hid hb1
      clear hst hl ha hc HS HO hb1 HOD hlt
      generalize ((fr + k : Nat) : Int) = fk at *
      generalize outs fr k (xs.take j) = O1 at *
      generalize hob : ownd fr k c = ob at *
      generalize xs.length = n at *
      go_wp2_with fail
      refine HOW.out.mono ?_
      rintro e w1 ⟨rfl, hw1⟩
      rw [← hw1] at HB1
      have hst1 := HST1.out.go HB1.out
      have hl1 := HL1.out.below HB1.out
      have HK1 := hid (Keeps2.below (bl := Bl) (u := v1) HB1.out)
      have ha1 := HA1.out.keeps HK1.out (NewRow.refl _ _)
      clear HOW hw1 q0 q1 q2 c2 HST1 HL1 HA1 HB1 HK1
      obtain ⟨m, hm⟩ := hst1.row
      have hsz := hst1.bel.size
      have HST := hid hst1
      have HL := hid hl1
      have HA := hid ha1
      have hbx := hst1.lst.cell
      cases ob with
      | true =>
        rw [if_pos rfl, List.append_nil] at HSC
        clear hst1 hl1 ha1 hm
        go_wp2
        go_roundg (gk - 1)
        case measure => have := HJ.out; have := HLT.out; omega
        case rel => exact ⟨j + 1, v1, by have := HJ.out; have := HLT.out; omega, by go_num, by rw [HSC.out]; exact HST.out, HL.out, HA.out⟩
      | false =>
        rw [if_neg (by decide)] at HSC
        have hml : m ≤ 95000 := by
          have h1 := hm.1
          rw [intVals_length, List.length_append] at h1
          have h2 := HLL.out
          have h3 := HOJ.out
          omega
        clear hl1 ha1
        go_wp2_with (at_builtin; refine wpList_append_fresh _ rfl _ _ 28 rfl w0.heap.size 3 i0 (.int .i64 0) 1 8 Tryz.underlying28 hi hz0 hz1 hz2 rfl (by decide) v1 m (intVals (L ++ O1)) rfl (hm.alloc _) ⟨w1.heap.size, 0, none⟩ 1 1 [.int .i64 c] rfl rfl (cell_one_new _ _ _) (by simp [Value.oneCell']) (by unfold maxLen; omega) (by omega) (by simp; omega) ?_)
        intro v' w2 hown' hgrow hnew
        obtain ⟨g', cap', rfl⟩ := ownsRow_succ hown'
        obtain ⟨hv1, hv2, hr2, _, hb2⟩ := hst1.lst.appended (by decide) hm hsz hst1.old hown' hgrow
        have hcv := hv1.cell
        have hfv := hv1.frozen
        have K2 := Keeps2.append (bl := Bl) (v' := .slice (some ⟨g', 0, none⟩) (m + 1) cap') hgrow
        have HSN : Hid (CutSt w0 Bc Bl fr k (.slice (some ⟨g', 0, none⟩) (m + 1) cap') (L ++ outs fr k (xs.take (j + 1))) (w2.setCell ⟨Bl, 0, none⟩ (.slice (some ⟨g', 0, none⟩) (m + 1) cap'))) := by
          refine ⟨(K2.2 Bc (Array.getElem?_eq_some_iff.1 hst1.box).1 hst1.ne (row_box hm hst1.box (by decide))).trans hst1.box, hv2, ⟨m + 1, ?_⟩, hst1.bel.trans hb2, hst1.old, hst1.old2⟩
          rw [HSC.out, ← List.append_assoc, intVals_append]
          exact hr2
        have HN := hid (NewRow.alloc hnew)
        have HLN := hid (HA.out.ints K2 HL.out)
        have HAN := hid (HA.out.keeps K2 HN.out)
        clear hst1 hm hbx hown' hgrow hnew hv1 hv2 hr2 hb2 K2 HST HL HA
        go_wp2
        go_roundg (gk - 1)
        case measure => have := HJ.out; have := HLT.out; omega
        case rel => exact ⟨j + 1, _, by have := HJ.out; have := HLT.out; omega, by go_num, HSN.out, HLN.out, HAN.out⟩
    · obtain rfl : j = xs.length := by have := HJ.out; omega
      rw [HE.out] at HST1
      clear hst hl ha hlt
      go_wp2
      go_end0
      exact ⟨rfl, v1, HST1.out⟩
end Go.Proofs.YtkcocgdgmlmflaaGreatDoor.LiB
namespace Go.Proofs.YtkcocgdgmlmflaaGreatDoor.LiC
open Go.RowKit Go.Lib SetP IntO TyM TyP TyB TyD ShM ShP ShA ShU ShW Aft Fresh BitOf FwQ FwR FwO IntG BlkG LgX LiM LiA LiB

/-- a row from a place on -/
theorem sizeIx (w : World) : (sizeOf (Tryz.prog.elem 43)).run Tryz.prog w = .ok 7 w := by kernel_rfl
theorem ins_drop {w : World} {ao : Option Addr} {n cap : Nat} {xs : List Ix} (h : InsAt w (.slice ao n cap) xs) {k : Nat} (hk : k ≤ xs.length) : ∃ v, InsAt w v (xs.drop k) ∧ (∀ wx : World, (Instr.slice 43 (.slice ao n cap) (some (.int .i64 (k : Int))) none none).run Tryz.prog wx = .ok v wx) := by
  obtain ⟨ao2, cap2, he, hl, hm, hz, hc⟩ := h
  cases he
  refine ⟨sliced ao k xs.length cap 7, ?_, fun wx => ?_⟩
  · unfold sliced
    have hlen : (xs.drop k).length = xs.length - k := List.length_drop
    by_cases e : cap = k
    · rw [if_pos e]
      refine ⟨ao, cap - k, by rw [hlen], by omega, fun h0 => by omega, fun h0 => by have := hz h0; omega, by omega⟩
    · rw [if_neg e]
      refine ⟨ao.map (·.add (k * 7)), cap - k, by rw [hlen], by omega, fun h0 => ?_, fun h0 => ?_, by omega⟩
      · obtain ⟨b, off, rfl, hlt, hcell⟩ := hm (by omega)
        refine ⟨b, off + k * 7, by simp [Addr.add], hlt, fun i hi => ?_⟩
        have h1 := hcell (k + i) (by omega)
        rw [List.getElem_drop, show off + k * 7 + i * 7 = off + (k + i) * 7 by omega]
        exact h1
      · cases ao with
        | none => have := hz rfl; omega
        | some a => cases h0
  · rw [run_slice_l (P := Tryz.prog) (w := wx) 43 ao xs.length cap (by kernel_rfl) .i64 (k : Int) (by omega) (by omega), sizeIx]
    rfl
theorem set_other {w : World} {b i : Nat} {u : Value} {a : Addr} (h : a.block ≠ b) : (w.setCell ⟨b, i, none⟩ u).cell? a = w.cell? a := by
  unfold World.cell?
  rw [Below.heap_setCell w ⟨b, i, none⟩ u a.block h]
theorem newSt_set {B b i : Nat} {w : World} {v u : Value} {s : List Wd} (h : NewSt B w v s) (hb : b < B) : NewSt B (w.setCell ⟨b, i, none⟩ u) v s := owns_set h hb
theorem newSt_base {B B2 : Nat} {w : World} {v : Value} {s : List Wd} (h : NewSt B w v s) (hb : B2 ≤ B) : NewSt B2 w v s := owns_base h hb
/-- the next instruction -/
theorem CutSt.next {w0 w : World} {Bc Bl fr k : Nat} {v : Value} {L : List Int} (h : CutSt w0 Bc Bl fr k v L w) : CutSt w0 Bc Bl fr (k + 1) v L (w.setCell ⟨Bc, 2, none⟩ (.int .i64 ((fr + (k + 1) : Nat) : Int))) := by
  obtain ⟨m, hm⟩ := h.row
  refine ⟨?_, (Below.heap_setCell w ⟨Bc, 2, none⟩ _ Bl (fun e => h.ne e.symm)).trans h.lst, ⟨m, hm.kept (row := some Bc) ⟨rfl, rfl, rfl, by rw [TyD.size_set]; exact Nat.le_refl _, fun j _ hj => Below.heap_setCell w ⟨Bc, 2, none⟩ _ j (fun e => hj (by rw [e]))⟩ (.inr (row_box hm h.box (by decide)))⟩, h.bel.setCell (p := ⟨Bc, 2, none⟩) h.old2 _, h.old, h.old2⟩
  have := TyD.set_heap (i := 2) (.int .i64 ((fr + (k + 1) : Nat) : Int)) h.box
  simpa using this
theorem seen_len {x : Ix} (h : x.args.length ≤ 16) : (LuM.seen x).length ≤ 20 := by
  unfold LuM.seen
  split
  · simp
  · exact uses_len h
theorem readK_len {fr : Nat} {xs : List Ix} (h : ∀ x ∈ xs, x.args.length ≤ 16) : ∀ (k : Nat), (readK fr xs k).length ≤ 20 * k
  | 0 => by simp [readK]
  | k + 1 => by
    have h1 := readK_len h k (fr := fr)
    show (readK fr xs k ++ _).length ≤ _
    rw [List.length_append]
    cases e : xs[k]? with
    | none => simp; omega
    | some x =>
      have h2 := outs_len fr k (LuM.seen x)
      have h3 := seen_len (h x (List.mem_of_getElem? e))
      show _ + (outs fr k (LuM.seen x)).length ≤ _
      omega
theorem set3_world (w : World) (b : Nat) (t : TypeId) (x0 x1 x2 : Value) (u0 u1 u2 : Value) (h : w.heap[b]? = some (.cells #[x0, x1, x2] t (0, 0))) :
    ∃ W3, W3 = (((w.setCell ⟨b, 0, none⟩ u0).setCell ⟨b, 1, none⟩ u1).setCell ⟨b, 2, none⟩ u2) ∧ W3.heap[b]? = some (.cells #[u0, u1, u2] t (0, 0)) ∧ ∀ B a, Below B a w → B ≤ b → Below B a W3 :=
  ⟨_, rfl, (TyD.set_heap (i := 2) u2 (TyD.set_heap (i := 1) u1 (TyD.set_heap (i := 0) u0 h))).trans (by simp), fun B a hb hB => (((hb.setCell (p := ⟨b, 0, none⟩) hB u0).setCell (p := ⟨b, 1, none⟩) hB u1).setCell (p := ⟨b, 2, none⟩) hB u2)⟩
theorem partUnder : Tryz.prog.underlying 58 = some (.struct (Tryz.prog.fieldsOf 58)) := by kernel_rfl
theorem partSize : (Tryz.prog.info? 58).map (·.size) = some 3 := by kernel_rfl
/-- a block's part -/
def PartR (w : World) (fr n : Nat) (L : List Int) (e : Ending) (w' : World) : Prop := ∃ u, e = .returned (.agg #[u, .int .i64 ((fr : Nat) : Int), .int .i64 ((fr + n : Nat) : Int)]) ∧ NewSt w.heap.size w' u (ofS L) ∧ Below w.heap.size w w'

set_option maxRecDepth 100000 in
set_option maxHeartbeats 8000000 in
theorem cut_c (x : Bx) (vi : Value) (first pl : Nat) (w : World) (hins : InsAt w vi x.ins) (ht : Tab w) (hpl : pl ≤ x.ins.length) (hl : x.ins.length ≤ 128) (hio : ∀ y ∈ x.ins, (0 ≤ y.op ∧ y.op ≤ 255) ∧ y.args.length ≤ 16) (hen : 0 ≤ x.en.kind ∧ x.en.kind ≤ 255) (hf : first ≤ 100000) :
    Calls Tryz.prog 16 #[bxV x vi, .int .i64 (first : Int), .int .i64 (pl : Int)] w (PartR w (first + pl) (x.ins.drop pl).length (cutR (first + pl) (x.ins.drop pl) x.en)) := by
  obtain ⟨xins, ⟨ek, ea, et, ee⟩⟩ := x
  simp only at *
  obtain ⟨xa, xc, rfl, _⟩ := hins.slice
  obtain ⟨vd, hvd, hrun⟩ := ins_drop hins hpl
  obtain ⟨da, dc, rfl, _⟩ := hvd.slice
  have HDL : Hid ((xins.drop pl).length ≤ 128) := by show _ ≤ _; rw [List.length_drop]; omega
  have HIO : Hid (∀ y ∈ xins.drop pl, (0 ≤ y.op ∧ y.op ≤ 255) ∧ y.args.length ≤ 16) := fun y hy => hio y (List.mem_of_mem_drop hy)
  have HRL := hid (readK_len (fr := first + pl) (fun y hy => (HIO.out y hy).2))
  have HRS := hid (fun (k : Nat) (y : Ix) (h : (xins.drop pl)[k]? = some y) => readK_succ (fr := first + pl) h)
  have HCE : Hid (cutR (first + pl) (xins.drop pl) ⟨ek, ea, et, ee⟩ = readK (first + pl) (xins.drop pl) (xins.drop pl).length ++ outs (first + pl) (xins.drop pl).length (endsOf ⟨ek, ea, et, ee⟩)) := rfl
  obtain ⟨fr, hfr⟩ : ∃ fr, first + pl = fr := ⟨_, rfl⟩
  have e1 : (first : Int) + (pl : Int) = (fr : Int) := by omega
  have HFR : Hid (fr ≤ 100128) := by show _ ≤ _; omega
  rw [hfr] at HCE HRL HRS ⊢
  obtain ⟨W0, hW0⟩ : ∃ W0, W0 = (w.alloc (.cells #[.slice xa xins.length xc, .int .u8 ek, .int .i64 ea, .int .i64 et, .int .i64 ee] 47)).alloc (.cells #[.slice none 0 0, .int .i64 0, .int .i64 0] 58) := ⟨_, rfl⟩
  have hb0 : Below w.heap.size w W0 := by rw [hW0]; exact ((Below.refl _ w).alloc (Nat.le_refl _) _).alloc (by simp) _
  have hs0 : W0.heap.size = w.heap.size + 1 + 1 := by rw [hW0]; simp
  have k0 : W0.heap[w.heap.size]? = some (.cells #[.slice xa xins.length xc, .int .u8 ek, .int .i64 ea, .int .i64 et, .int .i64 ee] 47 (0, 0)) := by
    rw [hW0]
    exact ((alloc_below _ _).block _ (by simp)).trans (alloc_new _ _)
  have r0 : W0.heap[w.heap.size + 1]? = some (.cells #[.slice none 0 0, .int .i64 0, .int .i64 0] 58 (0, 0)) := by
    rw [hW0]
    have := alloc_new (w.alloc (.cells #[.slice xa xins.length xc, .int .u8 ek, .int .i64 ea, .int .i64 et, .int .i64 ee] 47)) (.cells #[.slice none 0 0, .int .i64 0, .int .i64 0] 58)
    rwa [World.size_alloc] at this
  have HTD := hid (fun wx (h : Aft W0 wx) => ht.on (h.out hb0))
  have HVD := hid (hvd.below insStays hb0)
  have HEN := hid hen
  have HB0 := hid hb0
  have HW0 := hid hW0
  obtain ⟨n, hn⟩ : ∃ n, w.heap.size = n := ⟨_, rfl⟩
  rw [hn] at hs0 k0 r0
  have HN := hid hn
  obtain ⟨Bc, hBc⟩ : ∃ Bc, n + 1 + 1 = Bc := ⟨_, rfl⟩
  obtain ⟨Bl, hBl⟩ : ∃ Bl, Bc + 1 = Bl := ⟨_, rfl⟩
  rw [hBc] at hs0
  have l1 := later_cells k0 1 _ rfl; have l2 := later_cells k0 2 _ rfl; have l3 := later_cells k0 3 _ rfl; have l4 := later_cells k0 4 _ rfl
  have hst : CutSt W0 Bc Bl fr 0 (.slice none 0 0) (readK fr (xins.drop pl) 0) ((W0.alloc (.cells #[.slice none 0 0, .int .i64 (fr : Int), .int .i64 (fr : Int)] 58)).alloc (.cells #[.slice none 0 0] 28)) := by
    have z1 := alloc_new W0 (.cells #[.slice none 0 0, .int .i64 (fr : Int), .int .i64 (fr : Int)] 58)
    have z2 := alloc_new (W0.alloc (.cells #[.slice none 0 0, .int .i64 (fr : Int), .int .i64 (fr : Int)] 58)) (.cells #[.slice none 0 0] 28)
    rw [World.size_alloc, hs0, hBl] at z2
    rw [hs0] at z1
    refine ⟨((alloc_below _ _).block _ (by rw [World.size_alloc]; omega)).trans z1, z2, ⟨0, rfl, .inl ⟨rfl, rfl⟩⟩, ?_, by omega, by omega⟩
    exact ((Below.refl _ _).alloc (Nat.le_refl _) _).alloc (by rw [World.size_alloc]; omega) _
  have HR0 := hid (later_heap r0)
  have HST := hid hst
  have HS0 := hid hs0
  have HBL := hid hBl
  have HBC := hid hBc
  clear hst hs0 hins hvd hio hen ht hb0 hW0 k0 r0 hpl hl hfr hf hn hBc hBl
  have hfb := HFR.out
  generalize xins.drop pl = xs at *
  generalize xins.length = n0 at *
  go_enter Tryz.func16, Tryz.ntmps16
  go_wp2_with fail
  rw [← HW0.out, HN.out, HBC.out, HBL.out]
  obtain ⟨wl, hwl⟩ : ∃ wl, wl = (W0.alloc (.cells #[.slice none 0 0, .int .i64 (fr : Int), .int .i64 (fr : Int)] 58)).alloc (.cells #[.slice none 0 0] 28) := ⟨_, rfl⟩
  rw [← hwl]
  rw [← hwl] at HST
  clear hwl hrun e1 hfb
  go_loopg [11, 25] xs.length (fun gk _ i wr => ∃ (k : Nat) (v1 : Value), k + gk = xs.length ∧ i = .int .i64 k ∧ CutSt W0 Bc Bl fr k v1 (readK fr xs k) wr)
  case atStart => exact ⟨0, _, by omega, rfl, HST.out⟩
  case round =>
    obtain ⟨k, v1, hk, rfl, hst⟩ := hrel
    have HK := hid hk
    have HST1 := hid hst
    have hA : Aft W0 wr := hst.bel
    clear HST hk hst
    by_cases hlt : k < xs.length
    · have HLT := hid hlt
      obtain ⟨y, hy⟩ := some_at hlt
      obtain ⟨gi, ioff, aa, ac, fa2, fc2, rfl, i0, i1, i2, i3, i4, i5, i6, ja, jf⟩ := ins_later HVD.out hy
      have hio := HIO.out y (List.mem_of_getElem? hy)
      have HSC := hid (HRS.out k y hy)
      have HRLk := hid (HRL.out k)
      have c0 := i0 wr hA; have c1 := i1 wr hA; have c2 := i2 wr hA; have c3 := i3 wr hA; have c4 := i4 wr hA; have c5 := i5 wr hA; have c6 := i6 wr hA
      have hkx : (k : Int) < (xs.length : Int) := by omega
      have hkb : k ≤ 9223372036854775806 := by have := HDL.out; omega
      obtain ⟨W6, hW6⟩ : ∃ W6, W6 = wr.alloc (.cells #[.int .u8 y.op, .int .i64 y.typ, .int .i64 y.a, .int .i64 y.b, .int .i64 y.n, .slice aa y.args.length ac, .slice fa2 y.frm.length fc2] 49) := ⟨_, rfl⟩
      have hb6 : Below wr.heap.size wr W6 := by rw [hW6]; exact alloc_below _ _
      have k6 : W6.heap[wr.heap.size]? = some (.cells #[.int .u8 y.op, .int .i64 y.typ, .int .i64 y.a, .int .i64 y.b, .int .i64 y.n, .slice aa y.args.length ac, .slice fa2 y.frm.length fc2] 49 (0, 0)) := by rw [hW6]; exact alloc_new _ _
      have m0 := later_cells k6 0 _ rfl W6 (Aft.refl _); have m1 := later_cells k6 1 _ rfl W6 (Aft.refl _); have m2 := later_cells k6 2 _ rfl W6 (Aft.refl _); have m3 := later_cells k6 3 _ rfl W6 (Aft.refl _); have m4 := later_cells k6 4 _ rfl W6 (Aft.refl _); have m5 := later_cells k6 5 _ rfl W6 (Aft.refl _); have m6 := later_cells k6 6 _ rfl W6 (Aft.refl _)
      have hst6 := HST1.out.go hb6
      have hA6 : Aft W0 W6 := hA.go hb6
      have HUC := hid (uses_calls y _ (.slice fa2 y.frm.length fc2) W6 hio.1.1 hio.1.2 (HTD.out W6 hA6) (ja W6 hA6) (by omega) ⟨_, _, _, rfl⟩)
      have HUL := hid (uses_len hio.2)
      have HSE : Hid (∀ h : y.op = 22, LuM.seen y = []) := fun h => by unfold LuM.seen; rw [if_pos h]
      have HSU : Hid (∀ h : y.op ≠ 22, LuM.seen y = usesOf y) := fun h => by unfold LuM.seen; rw [if_neg h]
      have HW6 := hid hW6
      have HST6 := hid hst6
      obtain ⟨q, hq⟩ : ∃ q, fr + k = q := ⟨_, rfl⟩
      have HNX := hid (fun (v : Value) (wz : World) (h : CutSt W0 Bc Bl fr k v (readK fr xs k ++ outs fr k (LuM.seen y)) wz) => CutSt.next h)
      rw [← HSC.out, show ((fr + (k + 1) : Nat) : Int) = (q : Int) + 1 by omega] at HNX
      have hqb : q ≤ 9223372036854775806 := by have := HFR.out; have := HDL.out; omega
      have HCC := hid (fun (v : Value) (L : List Int) (wz : World) (h : CutSt W0 Bc Bl fr k v L wz) => (⟨h.cells.2.2, by unfold World.frozen?; rw [h.box]; simp⟩ : wz.cell? ⟨Bc, 2, none⟩ = some (.int .i64 ((fr + k : Nat) : Int)) ∧ wz.frozen? ⟨Bc, 2, none⟩ = false))
      rw [hq] at HCC
      have HC1 := hid (fun (u : Value) (w7 : World) (h7 : Below W6.heap.size W6 w7) (hu : NewI W6.heap.size w7 u (usesOf y)) => cut1_c W0 Bc Bl fr k v1 (readK fr xs k) w7 (hst6.go h7) u (usesOf y) hu.1 (hst6.away hu) (by have := HUL.out; omega) (by have := HRLk.out; have := HDL.out; omega))
      clear i0 i1 i2 i3 i4 i5 i6 ja jf hio hy hA hW6 hb6 k6 hst6 hA6 hq HRS HRL HIO HTD HVD HST1 hlt
      obtain ⟨yop, yty, ya, yb, yn, yar, yfr⟩ := y
      simp only at *
      go_upto_region 7 with fail
      rw [← HW6.out]
      by_cases h22 : yop = 22
      · have e22 : (yop != 22) = false := by simp [h22]
        have HS0 := HSE.out h22
        have h9 : CutSt W0 Bc Bl fr k v1 (readK fr xs k ++ outs fr k (LuM.seen ⟨yop, yty, ya, yb, yn, yar, yfr⟩)) W6 := by
          rw [HS0]
          simpa [outs] using HST6.out
        obtain ⟨x0, x1⟩ := HCC.out _ _ _ h9
        rw [← HSC.out] at h9
        have HR := hid (HNX.out _ _ h9)
        clear h22 HS0 h9 HNX HCC HSE HSU HC1 HUC HST6 c0 c1 c2 c3 c4 c5 c6 m1 m2 m3 m4 m5 m6
        go_wp2
        go_roundg (gk - 1)
        case measure => have := HK.out; have := HLT.out; omega
        case rel => exact ⟨k + 1, _, by have := HK.out; have := HLT.out; omega, by go_num, HR.out⟩
      · have e22 : (yop != 22) = true := by simpa using h22
        rw [← HSU.out h22] at HUC HC1
        rw [← HSU.out h22] at HUL
        clear h22 HSE HSU
        generalize LuM.seen ⟨yop, yty, ya, yb, yn, yar, yfr⟩ = us at *
        go_wp2_with fail
        refine HUC.out.mono ?_
        rintro e w7 ⟨u7, m7, rfl, hu7, hb7⟩
        have HC := hid (HC1.out u7 w7 hb7 (newI_of hu7 (by have := HUL.out; omega)))
        obtain ⟨ua, uc, rfl⟩ := RwO.own_form hu7
        clear HUC hu7 hb7 HC1 c0 c1 c2 c3 c4 c5 c6 m0 m1 m2 m3 m4 m5 m6
        go_wp2_with fail
        refine HC.out.mono ?_
        rintro e w8 ⟨rfl, v8, h8⟩
        obtain ⟨x0, x1⟩ := HCC.out _ _ _ h8
        rw [← HSC.out] at h8
        have HR := hid (HNX.out _ _ h8)
        clear h8 HC HCC HNX
        go_wp2
        go_roundg (gk - 1)
        case measure => have := HK.out; have := HLT.out; omega
        case rel => exact ⟨k + 1, _, by have := HK.out; have := HLT.out; omega, by go_num, HR.out⟩
    · obtain rfl : k = xs.length := by have := HK.out; omega
      have q1 := l1 wr hA; have q2 := l2 wr hA; have q3 := l3 wr hA; have q4 := l4 wr hA
      have HEC := hid (ends_calls ⟨ek, ea, et, ee⟩ wr HEN.out.1 HEN.out.2 (HTD.out wr hA))
      have HEL := hid (ends_len ⟨ek, ea, et, ee⟩)
      have HC1 := hid (fun (u : Value) (w7 : World) (h7 : Below wr.heap.size wr w7) (hu : NewI wr.heap.size w7 u (endsOf ⟨ek, ea, et, ee⟩)) => cut1_c W0 Bc Bl fr xs.length v1 (readK fr xs xs.length) w7 (HST1.out.go h7) u (endsOf ⟨ek, ea, et, ee⟩) hu.1 (HST1.out.away hu) (by have := HEL.out; omega) (by have := HRL.out xs.length; have := HDL.out; omega))
      rw [← HCE.out] at HC1
      have HB := hid hA
      have HCL : Hid ((cutR fr xs ⟨ek, ea, et, ee⟩).length ≤ 100000) := by
        show _ ≤ _
        rw [HCE.out, List.length_append]
        have h1 := HRL.out xs.length
        have h2 := outs_len fr xs.length (endsOf ⟨ek, ea, et, ee⟩)
        have h3 := HEL.out
        have h4 := HDL.out
        omega
      clear l1 l2 l3 l4 hA hlt HRL HRS HIO HTD HVD HCE
      generalize endsOf ⟨ek, ea, et, ee⟩ = es at *
      generalize cutR fr xs ⟨ek, ea, et, ee⟩ = cl at *
      go_wp2_with fail
      refine HEC.out.mono ?_
      rintro e w7 ⟨u7, m7, rfl, hu7, hb7⟩
      have HC := hid (HC1.out u7 w7 hb7 (newI_of hu7 (by have := HEL.out; omega)))
      obtain ⟨ua, uc, rfl⟩ := RwO.own_form hu7
      clear HEC hu7 hb7 HC1 q1 q2 q3 q4 HST1
      go_wp2_with fail
      refine HC.out.mono ?_
      rintro e w8 ⟨rfl, v8, h8⟩
      obtain ⟨m8, hm8⟩ := h8.row
      have hbx := h8.lst.cell
      have hcl := HCL.out
      have HSC := hid (set_c v8 cl w8 (intsAt_of_owns hm8 (by omega)))
      have H8 := hid h8
      clear HC h8 hm8 hcl
      go_wp2_with fail
      refine HSC.out.mono ?_
      rintro e w9 ⟨u9, rfl, hu9, hb9⟩
      have h9 := H8.out.go hb9
      obtain ⟨y0, y1, y2⟩ := h9.cells
      have f9 : w9.frozen? ⟨Bc, 0, none⟩ = false := by unfold World.frozen?; rw [h9.box]; simp
      have r9 := HR0.out w9 h9.bel
      obtain ⟨ua9, uc9, rfl⟩ := RwO.own_form hu9
      obtain ⟨w10, hw10⟩ : ∃ w10, w10 = w9.setCell ⟨Bc, 0, none⟩ (.slice ua9 (ofS cl).length uc9) := ⟨_, rfl⟩
      have hne : Bc ≠ n + 1 := by have := HBC.out; omega
      have b10 : w10.heap[Bc]? = some (.cells #[.slice ua9 (ofS cl).length uc9, .int .i64 ((fr : Nat) : Int), .int .i64 ((fr + xs.length : Nat) : Int)] 58 (0, 0)) := by
        rw [hw10]
        have := TyD.set_heap (i := 0) (.slice ua9 (ofS cl).length uc9) h9.box
        simpa using this
      have r10 : w10.heap[n + 1]? = some (.cells #[.slice none 0 0, .int .i64 0, .int .i64 0] 58 (0, 0)) := by
        rw [hw10]
        exact (Below.heap_setCell w9 ⟨Bc, 0, none⟩ _ (n + 1) (fun e => hne e.symm)).trans r9
      have z0 := later_cells b10 0 _ rfl w10 (Aft.refl _); have z1 := later_cells b10 1 _ rfl w10 (Aft.refl _); have z2 := later_cells b10 2 _ rfl w10 (Aft.refl _)
      have v0 := later_cells r10 0 _ rfl w10 (Aft.refl _); have v1' := later_cells r10 1 _ rfl w10 (Aft.refl _); have v2 := later_cells r10 2 _ rfl w10 (Aft.refl _)
      have g0 : w10.frozen? ⟨n + 1, 0, none⟩ = false := by unfold World.frozen?; rw [r10]; simp
      have g1 : w10.frozen? ⟨n + 1, 1, none⟩ = false := by unfold World.frozen?; rw [r10]; simp
      have g2 : w10.frozen? ⟨n + 1, 2, none⟩ = false := by unfold World.frozen?; rw [r10]; simp
      have HBe : Hid (Below w.heap.size w w10) := by
        show Below _ _ _
        rw [hw10]
        exact (HB0.out.trans (h9.bel.mono HB0.out.size)).setCell (p := ⟨Bc, 0, none⟩) (by have := HBC.out; have := HN.out; show _ ≤ Bc; omega) _
      have HUe : Hid (NewSt w8.heap.size w10 (.slice ua9 (ofS cl).length uc9) (ofS cl)) := by
        show NewSt _ _ _ _
        rw [hw10]
        exact newSt_set hu9 (Nat.lt_of_lt_of_le (Array.getElem?_eq_some_iff.1 H8.out.box).1 (Nat.le_refl _))
      have HW10 := hid hw10
      have HLT8 : Hid (n + 1 < w8.heap.size) := by
        have := (Array.getElem?_eq_some_iff.1 H8.out.box).1
        have := HBC.out
        show _ < _
        omega
      have HFin := hid (fun (wz : World) (h1 : Below w.heap.size w10 wz) (h2 : NewSt w8.heap.size wz (.slice ua9 (ofS cl).length uc9) (ofS cl)) => show PartR w fr xs.length cl (.returned (.agg #[.slice ua9 (ofS cl).length uc9, .int .i64 ((fr : Nat) : Int), .int .i64 ((fr + xs.length : Nat) : Int)])) wz from ⟨_, rfl, newSt_base h2 (by have := HLT8.out; have := HN.out; omega), HBe.out.trans h1⟩)
      obtain ⟨W3, hW3, k3, hB3⟩ := set3_world w10 (n + 1) 58 _ _ _ (.slice ua9 (ofS cl).length uc9) (.int .i64 ((fr : Nat) : Int)) (.int .i64 ((fr + xs.length : Nat) : Int)) r10
      have HF3 := hid (HFin.out W3 (hB3 _ _ (Below.refl _ _) (by have := HN.out; omega)) (by rw [hW3]; exact newSt_set (newSt_set (newSt_set HUe.out HLT8.out) HLT8.out) HLT8.out))
      have HW3 := hid hW3
      have HK3 := hid k3
      clear HSC hb9 H8 hu9 h9 r9 hbx hw10 b10 r10 hne hW3 k3 hB3 HFin HUe
      generalize ofS cl = so at *
      generalize ((fr + xs.length : Nat) : Int) = th at *
      go_upto_region 13 with fail
      rw [← HW10.out]
      go_wp2_with fail
      rw [← HW3.out]
      exact bodyPost_ret (results_cell_row rfl _ _ _ _ _ _ _ rfl HK3.out partUnder rfl partSize) rfl HF3.out
end Go.Proofs.YtkcocgdgmlmflaaGreatDoor.LiC
