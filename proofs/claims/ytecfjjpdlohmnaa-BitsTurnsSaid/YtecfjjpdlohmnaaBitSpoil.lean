/- Walk over fescuelaw02.spoil. -/
import Derived.Test.YtecfjjpdlohmnaaBitClone
import Derived.Deep.LoopGhost
import Derived.Laws.NewBlocks
namespace Go.Proofs.Ytecfjjpdlohmnaa.BitSpoil
open Go.RowKit Go.Lib SetP SetO SetNum SetIn SetWith SetT SetW2 BitClone

theorem cell_cur {w : World} {g i : Nat} {cur : Array Value} {t : TypeId} (h : w.heap[g]? = some (.cells cur t (0, 0))) (hi : i < cur.size) : ∃ u, w.cell? ⟨g, i, none⟩ = some u := by
  refine ⟨cur[i], ?_⟩
  unfold World.cell?
  rw [h]
  simp [hi]
theorem set_cur {w : World} {g i : Nat} {cur : Array Value} {t : TypeId} (u : Value) (h : w.heap[g]? = some (.cells cur t (0, 0))) : ∃ cur', (w.setCell ⟨g, i, none⟩ u).heap[g]? = some (.cells cur' t (0, 0)) ∧ cur'.size = cur.size := by
  obtain ⟨hlt, hk⟩ := Array.getElem?_eq_some_iff.1 h
  refine ⟨cur.setIfInBounds i u, ?_, by simp⟩
  show (w.heap.modify g _)[g]? = _
  rw [Array.getElem?_eq_getElem (by rw [Array.size_modify]; exact hlt), Array.getElem_modify_self, hk]
  rfl
theorem grown_set (W : World) (b i : Nat) (v : Value) : W.grownBy (W.setCell ⟨b, i, none⟩ v) (some b) :=
  ⟨rfl, rfl, rfl, (by simp [World.setCell]), fun k _ hk => Below.heap_setCell _ _ _ k (fun e => hk (by rw [e]))⟩
theorem grown_trans {a b c : World} {r : Option Nat} (h : a.grownBy b r) (k : b.grownBy c r) : a.grownBy c r :=
  ⟨k.os.trans h.os, k.tape.trans h.tape, k.output.trans h.output, Nat.le_trans h.size k.size, fun i hi hr => (k.block i (Nat.lt_of_lt_of_le hi h.size) hr).trans (h.block i hi hr)⟩

theorem two_set {w : World} {g i j : Nat} {cur : Array Value} {t : TypeId} (h : w.heap[g]? = some (.cells cur t (0, 0))) (u v : Value) :
    ∃ c, ((w.setCell ⟨g, i, none⟩ u).setCell ⟨g, j, none⟩ v).heap[g]? = some (.cells c t (0, 0)) ∧ c.size = cur.size := by
  obtain ⟨c1, h1, s1⟩ := set_cur (i := i) u h
  obtain ⟨c2, h2, s2⟩ := set_cur (i := j) v h1
  exact ⟨c2, h2, by omega⟩

set_option maxHeartbeats 1000000 in
theorem spoil_calls (base : Nat) (v : Value) (n : Nat) (xs : List Value) (w : World) (hown : w.ownsRow base 40 2 v n xs) (hn : n ≤ 100000) :
    Calls Try.prog 13 #[v] w fun e w' => e = .returned (.tuple #[]) ∧ w.grownBy w' v.ownBlock := by
  rcases hown.2 with ⟨rfl, rfl⟩ | ⟨g, cap, cur, rfl, hbg, hg, hnc, hcm, hcs, ht⟩
  · clear hown
    go_enter Try.func13, Try.ntmps13
    go_wp2
    go_loop [2] (fun i => i = .int .i64 0) (fun _ => 0)
    case atStart => exact rfl
    case round =>
      subst hrel
      go_wp2
      go_end0
      exact ⟨rfl, ⟨rfl, rfl, rfl, Nat.le_refl _, fun _ _ _ => rfl⟩⟩
  · clear hown
    have HG := hid hg
    have HCS := hid hcs
    clear hg ht hcs
    go_enter Try.func13, Try.ntmps13
    go_wp2
    go_loopg [2] n (fun gg i wr => ∃ (k : Nat) (c2 : Array Value), k + gg = n ∧ i = .int .i64 k ∧ wr.heap[g]? = some (.cells c2 40 (0, 0)) ∧ c2.size = cap * 2 ∧ w.grownBy wr (some g))
    case atStart => exact ⟨0, cur, by omega, rfl, HG.out, HCS.out, ⟨rfl, rfl, rfl, Nat.le_refl _, fun _ _ _ => rfl⟩⟩
    case round =>
      obtain ⟨k, c2, hk, rfl, hcur, hsz, hgr⟩ := hrel
      have HSZ := hid hsz
      clear hsz
      by_cases hlt : k < n
      · obtain ⟨u0, hu0⟩ := cell_cur (i := 0 + k * 2) hcur (by have := HSZ.out; omega)
        obtain ⟨u1, hu1⟩ := cell_cur (i := 0 + k * 2 + 1) hcur (by have := HSZ.out; omega)
        have hfz : wr.frozen? ⟨g, k * 2, none⟩ = false := by simp [World.frozen?, hcur]
        have hfz1 : wr.frozen? ⟨g, k * 2 + 1, none⟩ = false := by simp [World.frozen?, hcur]
        have HC := hid hcur
        clear hcur
        simp only [Nat.zero_add] at hu0 hu1
        go_wp2
        obtain ⟨c3, h3, s3⟩ := two_set (i := k * 2) (j := k * 2 + 1) HC.out (.int .i64 (-7)) (.int .u64 0)
        go_roundg (gk - 1)
        case measure => omega
        case rel => exact ⟨k + 1, c3, by omega, by go_num, h3, by rw [s3]; exact HSZ.out, grown_trans (grown_trans hgr (grown_set _ _ _ _)) (grown_set _ _ _ _)⟩
      · go_wp2
        go_end0
        exact ⟨rfl, hgr⟩
end Go.Proofs.Ytecfjjpdlohmnaa.BitSpoil
