/- What fescueref07.Program keeps in memory; its contract. -/
import Derived.Test.YtpkgkeclkbidiaaGreatDoorZRdF
import Derived.Test.YtpkgkeclkbidiaaGreatDoorZRdK
import Derived.Test.YtpkgkeclkbidiaaGreatDoorZRcQToRcX
namespace Go.Proofs.YtpkgkeclkbidiaaGreatDoor.RdW
open Go.RowKit Go.Lib TyM TyP ShM ShP ShB IntO SetP LxM LxJ LxY RwO RdM RdN RdV RdB RdK Aft RcP RcV RcW
open TyW (Row rowVals rowVals_length)
open LxP (LinesAt StrsAt)

/-- a program, and whether it is one -/
def PrgR (o : Option Px) (w : World) (e : Ending) (w' : World) : Prop := ∃ v q, e = .returned (.tuple #[v, .bool o.isSome]) ∧ (∀ z, o = some z → q = z) ∧ PrNew w.heap.size w' v q ∧ Below w.heap.size w w'
/-- the result's block, the program's own, its types, its functions -/
structure PgS (w : World) (vt : Value) (rt : List Row) (vf : Value) (rf : List Fr) (wr : World) : Prop where
 res : wr.heap[w.heap.size]? = some (.cells #[.slice none 0 0, .slice none 0 0] 25 (0, 0))
 box : wr.heap[w.heap.size + 1]? = some (.cells #[vt, vf] 25 (0, 0))
 ty : TyOwn w.heap.size wr vt rt
 fns : OwnFns w.heap.size wr vf rf
 below : Below w.heap.size w wr
 size : w.heap.size + 2 ≤ wr.heap.size
theorem PgS.on {w : World} {vt vf : Value} {rt : List Row} {rf : List Fr} {wr w' : World} (h : PgS w vt rt vf rf wr) (hb : Below wr.heap.size wr w') : PgS w vt rt vf rf w' :=
 ⟨(hb.block _ (by have := h.size; omega)).trans h.res, (hb.block _ (by have := h.size; omega)).trans h.box, h.ty.on hb, h.fns.below hb, h.below.trans (hb.mono (by have := h.size; omega)), Nat.le_trans h.size hb.size⟩
theorem PgS.start (w : World) : PgS w (.slice none 0 0) [] (.slice none 0 0) [] ((w.alloc (.cells #[.slice none 0 0, .slice none 0 0] 25)).alloc (.cells #[.slice none 0 0, .slice none 0 0] 25)) := by
 refine ⟨alloc_old (alloc_new _ _) _, ?_, ⟨World.ownsRow_nil _ _ _ _, by simp⟩, ⟨World.ownsRow_nil _ _ _ _, by simp⟩, (alloc_below _ _).alloc (by simp) _, by simp only [World.size_alloc]; omega⟩
 have := alloc_new (w.alloc (.cells #[.slice none 0 0, .slice none 0 0] 25)) (.cells #[.slice none 0 0, .slice none 0 0] 25)
 rwa [World.size_alloc] at this
/-- a type appended -/
theorem PgS.growT {w : World} {vt vf v5 : Value} {rt : List Row} {rf : List Fr} {w4 w5 : World} {y : Row} (h : PgS w vt rt vf rf w4) (hy : PartsAt w.heap.size w4 y.2 y.1.parts) (h5 : w5.ownsRow w.heap.size 57 4 v5 (rt.length + 1) (rowOf tyRow rt ++ rowOf tyRow [y])) (hg : w4.grownBy w5 vt.ownBlock) :
  w5.heap[w.heap.size + 1]? = some (.cells #[vt, vf] 25 (0, 0)) ∧ PgS w v5 (rt ++ [y]) vf rf (w5.setCell ⟨w.heap.size + 1, 0, none⟩ v5) := by
 have g1 := h.ty.grow hy h5 hg
 have g2 := ownFns_other h.fns hg (own_typed h.ty.1) (by decide) (by decide) (by decide) (by decide)
 have hs := h.size
 have hlo := h.ty.1.lt
 have hne : ∀ n cs, w4.heap[n]? = some (.cells cs 25 (0, 0)) → vt.ownBlock ≠ some n := fun n cs hn e => by
  obtain ⟨cs2, fr2, h3⟩ := own_typed h.ty.1 _ e
  rw [hn] at h3
  simp at h3
 have hres : w5.heap[w.heap.size]? = _ := (hg.block _ (Array.getElem?_eq_some_iff.1 h.res).1 (fun e => hne _ _ h.res e.symm)).trans h.res
 have hbox : w5.heap[w.heap.size + 1]? = _ := (hg.block _ (Array.getElem?_eq_some_iff.1 h.box).1 (fun e => hne _ _ h.box e.symm)).trans h.box
 have hgs := ShTB.grown_set w5 (w.heap.size + 1) 0 v5
 exact ⟨hbox, ⟨(Below.heap_setCell _ _ _ _ (by simp)).trans hres, (ShTB.set_heap' (i := 0) v5 hbox).trans (by simp), g1.other hgs (ShTB.typed_at hbox) (by decide) (by decide), ownFns_other g2 hgs (ShTB.typed_at hbox) (by decide) (by decide) (by decide) (by decide), (h.below.grown hg (by omega) (fun k hk => (hlo k hk).1)).setCell (p := ⟨w.heap.size + 1, 0, none⟩) (Nat.le_succ _) v5, by rw [ShTB.size_set]; have := hg.size; omega⟩⟩
/-- a function appended -/
theorem PgS.growF {w : World} {vt vf v5 : Value} {rt : List Row} {rf : List Fr} {w4 w5 : World} {y : Fr} (h : PgS w vt rt vf rf w4) (hy : OwnBlks w.heap.size w4 y.vb y.blocks) (h5 : w5.ownsRow w.heap.size 46 2 v5 (rf.length + 1) (rowOf frV rf ++ rowOf frV [y])) (hg : w4.grownBy w5 vf.ownBlock) :
  w5.heap[w.heap.size + 1]? = some (.cells #[vt, vf] 25 (0, 0)) ∧ PgS w vt rt v5 (rf ++ [y]) (w5.setCell ⟨w.heap.size + 1, 1, none⟩ v5) := by
 have g1 := h.ty.other hg (own_typed h.fns.1) (by decide) (by decide)
 have g2 := fns_more h.fns hy h5 hg
 have hs := h.size
 have hlo := h.fns.1.lt
 have hne : ∀ n cs, w4.heap[n]? = some (.cells cs 25 (0, 0)) → vf.ownBlock ≠ some n := fun n cs hn e => by
  obtain ⟨cs2, fr2, h3⟩ := own_typed h.fns.1 _ e
  rw [hn] at h3
  simp at h3
 have hres : w5.heap[w.heap.size]? = _ := (hg.block _ (Array.getElem?_eq_some_iff.1 h.res).1 (fun e => hne _ _ h.res e.symm)).trans h.res
 have hbox : w5.heap[w.heap.size + 1]? = _ := (hg.block _ (Array.getElem?_eq_some_iff.1 h.box).1 (fun e => hne _ _ h.box e.symm)).trans h.box
 have hgs := ShTB.grown_set w5 (w.heap.size + 1) 1 v5
 exact ⟨hbox, ⟨(Below.heap_setCell _ _ _ _ (by simp)).trans hres, (ShTB.set_heap' (i := 1) v5 hbox).trans (by simp), g1.other hgs (ShTB.typed_at hbox) (by decide) (by decide), ownFns_other g2 hgs (ShTB.typed_at hbox) (by decide) (by decide) (by decide) (by decide), (h.below.grown hg (by omega) (fun k hk => (hlo k hk).1)).setCell (p := ⟨w.heap.size + 1, 1, none⟩) (Nat.le_succ _) v5, by rw [ShTB.size_set]; have := hg.size; omega⟩⟩
/-- the program stored into the result's -/
theorem PgS.done {w : World} {vt vf : Value} {rt : List Row} {rf : List Fr} {wr : World} (h : PgS w vt rt vf rf wr) :
  ∃ W3, W3 = ((wr.setCell ⟨w.heap.size, 0, none⟩ vt).setCell ⟨w.heap.size, 1, none⟩ vf) ∧
   W3.heap[w.heap.size]? = some (.cells #[vt, vf] 25 (0, 0)) ∧ TyOwn w.heap.size W3 vt rt ∧ OwnFns w.heap.size W3 vf rf ∧ Below w.heap.size w W3 := by
 obtain ⟨W3, h1, h2, h3, h4⟩ := set2_world wr w.heap.size 25 _ _ vt vf h.res
 have hb := h4 0 wr (Below.refl _ _) (Nat.zero_le _)
 have hgr : wr.grownBy W3 (some w.heap.size) := ⟨hb.os, hb.tape, hb.output, hb.size, fun k _ hk => h2 k (fun e => hk (by rw [e]))⟩
 exact ⟨W3, h1, h3, h.ty.other hgr (ShTB.typed_at h.res) (by decide) (by decide), ownFns_other h.fns hgr (ShTB.typed_at h.res) (by decide) (by decide) (by decide) (by decide), h4 _ _ h.below (Nat.le_refl _)⟩
/-- the program told of every world that keeps its blocks -/
theorem pr_new {B : Nat} {w : World} {vt vf : Value} {rt : List Row} {rf : List Fr} (ht : TyOwn B w vt rt) (hf : OwnFns B w vf rf) (hl : rt.length ≤ 100000) : PrNew B w (.agg #[vt, vf]) ⟨rt.map Prod.fst, rf.map Fr.fx⟩ :=
 fun _ hk => ⟨vt, vf, rfl, (tyOwn_up ht hk).tys hl, (ownFns_up hf hk).row⟩
/-- a mark's number is none below 0 -/
theorem mk_nonneg (x : ByteArray) (c : UInt8) : 0 ≤ (mkN x c).1 := by
 by_cases h : (mkN x c).2 = 0
 ·exact (RcS.mk_range h).1
 ·unfold mkN at h ⊢
  split at h
  ·exact Int.le_refl _
  ·split at h
   ·rename_i hx
    rcases sm_cases (by assumption) with h2 | h2
    ·exact absurd h2 h
    ·simp only [hx, if_true, h2]
     exact Int.le_refl _
   ·rename_i hx
    simp only [hx, if_false]
    exact Int.le_refl _
/-- a line func, and what follows it -/
theorem funcs_at (ts : List Ty) {l : Ln} (M : List Ln) {sg em : Int} (h2 : l.length = 2) (hw : w0 l = [102, 117, 110, 99]) (hm : mkN (l.getD 1 ⟨#[]⟩) 116 = (sg, em)) :
  funcsP ts (l :: M) = if em = 0 then (match blocksP M (regOf ts sg) with
   | none => none
   | some (bs, n) => preG [⟨sg, bs⟩] (funcsP ts (M.drop n))) else none := by
 rw [funcs_cons, if_pos ⟨h2, hw⟩, hm]
 unfold funcP
 by_cases he : em = 0
 ·simp only [he, if_true]
  cases blocksP M (regOf ts sg) with
  | none => rfl
  | some r => rfl
 ·simp only [he, if_false]
/-- a function stored into a block of its own, behind the world w4 -/
theorem PgS.stored {w : World} {vt vf vb : Value} {rt : List Row} {rf : List Fr} {bs : List Br} {w4 wx : World} {b : Nat} (hs : PgS w vt rt vf rf w4) (hb : Below w4.heap.size w4 wx) (hlo : w4.heap.size ≤ b) (hk : wx.heap[b]? = some (.cells #[.int .i64 0, .slice none 0 0] 46 (0, 0))) (ho : OwnBlks w.heap.size wx vb bs) (sg : Int) :
  ∃ W3, W3 = ((wx.setCell ⟨b, 0, none⟩ (.int .i64 sg)).setCell ⟨b, 1, none⟩ vb) ∧ W3.heap[b]? = some (.cells #[.int .i64 sg, vb] 46 (0, 0)) ∧ OwnBlks w.heap.size W3 vb bs ∧ PgS w vt rt vf rf W3 := by
 obtain ⟨W3, h1, h2, h3, h4⟩ := set2_world wx b 46 _ _ (.int .i64 sg) vb hk
 have hbb := h4 0 wx (Below.refl _ _) (Nat.zero_le _)
 have hgr : wx.grownBy W3 (some b) := ⟨hbb.os, hbb.tape, hbb.output, hbb.size, fun k _ hk => h2 k (fun e => hk (by rw [e]))⟩
 exact ⟨W3, h1, h3, ho.other hgr (ShTB.typed_at hk) (by decide) (by decide) (by decide), hs.on (h4 _ _ hb hlo)⟩
end Go.Proofs.YtpkgkeclkbidiaaGreatDoor.RdW
