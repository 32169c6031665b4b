/- What an append leaves alone: all blocks but the row that it had; and where the new row lies. -/
import Derived.Test.YtpejpnffcepdlaaGreatDoorZIntOToSwXd
import Derived.RangeFuncBox
import Derived.Shelf.Abstract
namespace Go.Proofs.YtpejpnffcepdlaaGreatDoor.Fresh
open Go.RowKit Go.Lib SetP IntO

/-- where the new row lies: where the old one did, or behind all -/
def NewRow (w : World) (v v' : Value) : Prop := v'.ownBlock = v.ownBlock ∨ ∃ g, v'.ownBlock = some g ∧ w.heap.size ≤ g

theorem append_fresh {P : Program} (w : World) (base : Nat) (t ty e : TypeId) (i : TypeInfo) (z : Value) (size bytes : Nat) (ht : P.underlying t = some (.slice e)) (hi : P.info? e = some i) (hz : i.zero = some z)
  (hsize : i.size = size) (hby : i.bytes = bytes) (hzs : z.cells.size = size) (hsz : 0 < size) (v : Value) (n : Nat) (xs : List Value) (hown : w.ownsRow base e size v n xs)
  (a : Addr) (m c : Nat) (news : List Value) (hl : news.length = m * size) (hnews : ∀ j u, news[j]? = some u → w.cell? (a.add j) = some u) (h1 : ∀ u ∈ news, u.oneCell' = true)
  (h63 : n + m ≤ maxLen) (hbytes : (n + m) * bytes ≤ 140737488355328) (hbase : base ≤ w.heap.size) :
  ∃ v' w', (Builtin.append_ #[t, t] ty #[v, .slice (some a) m c]).run P w = .ok v' w' ∧ w'.ownsRow base e size v' (n + m) (xs ++ news) ∧ w.grownBy w' v.ownBlock ∧ NewRow w v v' := by
 rcases hown.2 with ⟨rfl, rfl⟩ | ⟨g, cap, cur, rfl, hbg, hg, hnc, hcm, hcs, htake⟩
 ·obtain ⟨v', w', hr, ho, hgr, _⟩ := run_append_own (P := P) w w.heap.size t ty e i z size bytes ht hi hz hsize hby hzs hsz _ _ _ ⟨hown.1, .inl ⟨rfl, rfl⟩⟩ a m c news hl hnews h1 h63 hbytes (Nat.le_refl _)
  refine ⟨v', w', hr, owns_base ho hbase, hgr, ?_⟩
  rcases ho.2 with ⟨rfl, _⟩ | ⟨g, _, _, rfl, hg, _⟩
  ·exact .inl rfl
  ·exact .inr ⟨g, rfl, hg⟩
 ·obtain ⟨v', w', hr, ho, hgr, _⟩ := run_append_own (P := P) w base t ty e i z size bytes ht hi hz hsize hby hzs hsz _ _ _ hown a m c news hl hnews h1 h63 hbytes hbase
  refine ⟨v', w', hr, ho, hgr, ?_⟩
  subst hsize
  subst hby
  by_cases hroom : n + m ≤ cap
  ·have hr2 := run_append_room (P := P) w t ty e i ht hi g n cap cur hg a m c news hl hnews h1 hroom (by rw [hl, hcs, ← Nat.add_mul]; exact Nat.mul_le_mul_right _ hroom)
   rw [hr] at hr2
   cases hr2
   exact .inl rfl
  ·have hr2 := run_append_grow (P := P) w t ty e i z ht hi hz ⟨g, 0, none⟩ n cap xs hown.1 (hown.cells (g := g) rfl) a m c news hl hnews (by omega) (by unfold maxLen at h63; omega) (growslice_fits (by omega) hbytes)
   rw [hr] at hr2
   cases hr2
   exact .inr ⟨_, rfl, Nat.le_refl _⟩

theorem wpList_append_fresh {P : Program} (w : World) {ops : Array Oper} {rest : List Oper} {o : Oper} {a : Act} {Q : Exit → Act → World → Prop} (hgd : o.guard = none) (s x : Operand) (t : TypeId)
  (ho : o.op = .call { callee := .builtin .append, args := #[s, x], argTypes := #[t, t] })
  (base : Nat) (e : TypeId) (i : TypeInfo) (z : Value) (size bytes : Nat) (ht : P.underlying t = some (.slice e)) (hi : P.info? e = some i) (hz : i.zero = some z)
  (hsize : i.size = size) (hby : i.bytes = bytes) (hzs : z.cells.size = size) (hsz : 0 < size) (v : Value) (n : Nat) (xs : List Value) (hs : a.eval s = v) (hown : w.ownsRow base e size v n xs)
  (ad : Addr) (m c : Nat) (news : List Value) (hx : a.eval x = .slice (some ad) m c) (hl : news.length = m * size) (hnews : ∀ j u, news[j]? = some u → w.cell? (ad.add j) = some u) (h1 : ∀ u ∈ news, u.oneCell' = true)
  (h63 : n + m ≤ maxLen) (hbytes : (n + m) * bytes ≤ 140737488355328) (hbase : base ≤ w.heap.size)
  (h : ∀ v' w', w'.ownsRow base e size v' (n + m) (xs ++ news) → w.grownBy w' v.ownBlock → NewRow w v v' → wpList P ops Q rest (a.put o.dst v') w') : wpList P ops Q (o :: rest) a w := by
 refine wpList_plain hgd fun K hK => ?_
 obtain ⟨v', w', hr, h2, h3, h4⟩ := append_fresh (P := P) w base t o.type e i z size bytes ht hi hz hsize hby hzs hsz v n xs hown ad m c news hl hnews h1 h63 hbytes hbase
 unfold Oper.wp execOp
 simp only [ho, resolve, invoke, builtin, Sem.run_bind, Sem.run_pure, Result.andThen_ok, List.map_toArray, List.map_cons, List.map_nil, hs, hx, hr]
 exact hK _ _ (h v' w' h2 h3 h4)

/-- all old blocks but a box and a row -/
def Keeps2 (bl : Nat) (u : Value) (w w' : World) : Prop := w.heap.size ≤ w'.heap.size ∧ ∀ j, j < w.heap.size → j ≠ bl → u.ownBlock ≠ some j → w'.heap[j]? = w.heap[j]?
theorem Keeps2.refl (bl : Nat) (u : Value) (w : World) : Keeps2 bl u w w := ⟨Nat.le_refl _, fun _ _ _ _ => rfl⟩
theorem NewRow.refl (w : World) (v : Value) : NewRow w v v := .inl rfl
theorem Keeps2.trans {bl : Nat} {u u1 : Value} {w w1 w2 : World} (h : Keeps2 bl u w w1) (hr : NewRow w u u1) (h2 : Keeps2 bl u1 w1 w2) : Keeps2 bl u w w2 := by
 refine ⟨Nat.le_trans h.1 h2.1, fun j hj hb hu => ?_⟩
 rw [h2.2 j (Nat.lt_of_lt_of_le hj h.1) hb ?_, h.2 j hj hb hu]
 rcases hr with hr | ⟨g, hr, hg⟩
 ·rw [hr]; exact hu
 ·rw [hr]; intro e; cases e; omega
theorem NewRow.trans {w w1 : World} {u u1 u2 : Value} (h : NewRow w u u1) (hw : w.heap.size ≤ w1.heap.size) (h2 : NewRow w1 u1 u2) : NewRow w u u2 := by
 rcases h2 with h2 | ⟨g, h2, hg⟩
 ·rcases h with h | ⟨g, h, hg⟩
  ·exact .inl (h2.trans h)
  ·exact .inr ⟨g, h2.trans h, hg⟩
 ·exact .inr ⟨g, h2, by omega⟩
theorem Keeps2.below {bl : Nat} {u : Value} {w w' : World} (h : Below w.heap.size w w') : Keeps2 bl u w w' := ⟨h.size, fun j hj _ _ => h.block j hj⟩
/-- an append, and the store into the box behind it -/
theorem Keeps2.append {bl : Nat} {u v' : Value} {w w1 : World} {tmp : Obj} (h : (w.alloc tmp).grownBy w1 u.ownBlock) : Keeps2 bl u w (w1.setCell ⟨bl, 0, none⟩ v') := by
 have hs : w.heap.size + 1 ≤ w1.heap.size := by have := h.size; simpa using this
 refine ⟨by simp [World.setCell]; omega, fun j hj hb hu => ?_⟩
 rw [Below.heap_setCell w1 ⟨bl, 0, none⟩ v' j hb, h.block j (by simp; omega) (fun e => hu e.symm), Below.heap_alloc _ _ _ hj]
theorem NewRow.alloc {w : World} {tmp : Obj} {u v' : Value} (h : NewRow (w.alloc tmp) u v') : NewRow w u v' := by
 rcases h with h | ⟨g, h, hg⟩
 ·exact .inl h
 ·exact .inr ⟨g, h, by have : w.heap.size + 1 ≤ g := by simpa using hg
                       omega⟩
/-- a list whose block is apart from a box and a row -/
def Away (bl : Nat) (u : Value) (w : World) (v : Value) : Prop := ∀ g off n c, v = .slice (some ⟨g, off, none⟩) n c → 0 < n → g < w.heap.size ∧ g ≠ bl ∧ u.ownBlock ≠ some g
theorem Away.keeps {bl : Nat} {u u1 v : Value} {w w1 : World} (h : Away bl u w v) (hk : Keeps2 bl u w w1) (hr : NewRow w u u1) : Away bl u1 w1 v := by
 intro g off n c e hn
 obtain ⟨h1, h2, h3⟩ := h g off n c e hn
 refine ⟨Nat.lt_of_lt_of_le h1 hk.1, h2, ?_⟩
 rcases hr with hr | ⟨g', hr, hg⟩
 ·rw [hr]; exact h3
 ·rw [hr]; intro e; cases e; omega
theorem Away.ints {bl : Nat} {u v : Value} {w w1 : World} {l : List Int} (h : Away bl u w v) (hk : Keeps2 bl u w w1) (hi : IntsAt w v l) : IntsAt w1 v l := by
 obtain ⟨ao, cap, rfl, hl, hm, hz⟩ := hi
 refine ⟨ao, cap, rfl, hl, fun h0 => ?_, hz⟩
 obtain ⟨b, off, rfl, hlt, hc⟩ := hm h0
 obtain ⟨h1, h2, h3⟩ := h b off _ _ rfl h0
 refine ⟨b, off, rfl, Nat.lt_of_lt_of_le hlt hk.1, fun i hi => ?_⟩
 have hcell := hc i hi
 unfold World.cell? at hcell ⊢
 rw [hk.2 b hlt h2 h3]
 exact hcell
end Go.Proofs.YtpejpnffcepdlaaGreatDoor.Fresh
