/- Walks over types.scalar, types.below, types.scalars, and what they call of package slices. Walks over types.below and types.scalars. Walks over slices.Index and slices.Contains at []int. slices.Contains, of whatever list of numbers lies in memory. Walks over types.may. Two lists, the first ones of them alike. Programs as they lie in memory. Walk over fescueref03.Great. A walk over fescueref02.SameInts. A walk over fescueref03.Same. A walk over slices.Clone of numbers. -/
import Derived.Test.YtpejpnffcepdlaaGreatDoorZIntOToSwXd
import Derived.Shelf.Abstract
import Derived.Deep.LoopGhost
import Derived.BigGuardPart
import Derived.Test.YtpejpnffcepdlaaGreatDoorZTyMToShN
import Derived.Deep.QuietTactic
import Derived.BigQuiet
import Derived.WalkSpells
import Derived.Laws.NewBlocks
namespace Go.Proofs.YtpejpnffcepdlaaGreatDoor.TyB
open Go.RowKit Go.Lib SetP IntO TyM TyP

/-- a bool, and old memory stays -/
def BoolR (b : Bool) (w : World) (e : Ending) (w' : World) : Prop := e = .returned (.bool b) ∧ Below w.heap.size w w'

set_option maxHeartbeats 400000 in
theorem scalar_calls (x : Ty) (pv : Value) (w : World) : Calls Tryz.prog 45 #[tyV x pv] w (BoolR (scalarK x.kind) w) := by
 have HD : Hid (scalarK x.kind = decide (x.kind = 1 ∨ x.kind = 2 ∨ x.kind = 3)) := rfl
 by_cases h1 : x.kind = 1
 ·rw [show scalarK x.kind = true by rw [HD.out]; simp [h1]]
  obtain ⟨k, e, m, p⟩ := x
  simp only at h1
  subst h1
  go_enter Tryz.func45, Tryz.ntmps45
  go_wp2
  go_ret
  exact ⟨rfl, (Below.refl _ _).alloc (Nat.le_refl _) _⟩
 by_cases h2 : x.kind = 2
 ·rw [show scalarK x.kind = true by rw [HD.out]; simp [h2]]
  obtain ⟨k, e, m, p⟩ := x
  simp only at h2
  subst h2
  go_enter Tryz.func45, Tryz.ntmps45
  go_wp2
  go_ret
  exact ⟨rfl, (Below.refl _ _).alloc (Nat.le_refl _) _⟩
 by_cases h3 : x.kind = 3
 ·rw [show scalarK x.kind = true by rw [HD.out]; simp [h3]]
  obtain ⟨k, e, m, p⟩ := x
  simp only at h3
  subst h3
  go_enter Tryz.func45, Tryz.ntmps45
  go_wp2
  go_ret
  exact ⟨rfl, (Below.refl _ _).alloc (Nat.le_refl _) _⟩
 ·rw [show scalarK x.kind = false by rw [HD.out]; simp [h1, h2, h3]]
  obtain ⟨k, e, m, p⟩ := x
  simp only at h1 h2 h3
  have e1 : (k == 1) = false := by simpa using h1
  have e2 : (k == 2) = false := by simpa using h2
  have e3 : (k == 3) = false := by simpa using h3
  clear HD
  go_enter Tryz.func45, Tryz.ntmps45
  go_wp2
  go_ret
  exact ⟨rfl, (Below.refl _ _).alloc (Nat.le_refl _) _⟩

/-- an index, or -1 -/
def IdxR (p : Int → Bool) (l : List Int) (w : World) (e : Ending) (w' : World) : Prop := ∃ i : Int, e = .returned (.int .i64 i) ∧ decide (0 ≤ i) = l.any p ∧ -1 ≤ i ∧ Below w.heap.size w w'

theorem any_split {p : Int → Bool} {l : List Int} {k : Nat} (hk : k < l.length) (hp : p l[k] = true) : l.any p = true :=
 List.any_eq_true.2 ⟨l[k], List.getElem_mem hk, hp⟩
theorem none_succ {p : Int → Bool} {l : List Int} {k : Nat} (hk : k < l.length) (h : (l.take k).any p = false) (hp : p l[k] = false) : (l.take (k + 1)).any p = false := by
 rw [List.take_succ_eq_append_getElem hk, List.any_append, h]
 simp [hp]

set_option maxHeartbeats 1000000 in
theorem index_calls (g : FuncId) (he : Enters Tryz.prog g) (cb : Nat) (p : Int → Bool) (v : Value) (l : List Int) (w : World) (hl : IntsAt w v l)
  (hg : ∀ x ∈ l, ∀ wx, Below w.heap.size w wx → Calls Tryz.prog g #[.int .i64 x, .pointer (some ⟨cb, 0, none⟩)] wx (BoolR (p x) wx)) :
  Calls Tryz.prog 135 #[v, .func (.func g) #[] #[.pointer (some ⟨cb, 0, none⟩)]] w (IdxR p l w) := by
 have he' : ∀ args w, (callFunc g args).run Tryz.prog w = .ok (.enter g args) w := he
 have HG := hid hg
 have HL := hid hl
 obtain ⟨ao, cap, rfl, hlen⟩ := ints_slice hl
 clear hg hl
 go_enter Tryz.func135, Tryz.ntmps135
 go_wp2
 go_loopg [8] l.length (fun gk i wr => ∃ k : Nat, k + gk = l.length ∧ i = .int .i64 k ∧ Below w.heap.size w wr ∧ (l.take k).any p = false)
 case atStart => exact ⟨0, by omega, rfl, Below.refl _ _, rfl⟩
 case round =>
  obtain ⟨k, hk, rfl, hbe, hno⟩ := hrel
  have HK := hid hk
  have HNO := hid hno
  clear hno
  by_cases hlt : k < l.length
  ·obtain ⟨b, off, rfl, hbs, hc⟩ := ints_at (HL.out.below hbe) k hlt
   have HC := hid (HG.out _ (List.getElem_mem hlt) wr hbe)
   have HS := hid (none_succ (p := p) hlt HNO.out)
   have HY := hid (any_split (p := p) hlt)
   clear hk
   generalize l[k] = n at *
   cases hp : p n with
   | true =>
    rw [hp] at HC
    have HP := hid hp
    clear hp
    go_wp2_with fail
    refine HC.out.mono ?_
    rintro e w1 ⟨rfl, hb1⟩
    have hbe1 := hbe.trans (hb1.mono hbe.size)
    clear hbe hb1 hc
    go_wp2
    go_ret
    exact ⟨k, rfl, by rw [HY.out HP.out]; simp, by omega, hbe1⟩
   | false =>
    rw [hp] at HC
    have HP := hid hp
    clear hp
    go_wp2_with fail
    refine HC.out.mono ?_
    rintro e w1 ⟨rfl, hb1⟩
    have hbe1 := hbe.trans (hb1.mono hbe.size)
    clear hbe hb1 hc
    go_wp2
    go_roundg (gk - 1)
    case measure => have := HK.out; omega
    case rel => exact ⟨k + 1, by have := HK.out; omega, by go_num, hbe1, HS.out HP.out⟩
  ·obtain rfl : k = l.length := by omega
   clear hk
   go_wp2
   go_ret
   exact ⟨-1, rfl, by have := HNO.out; rw [List.take_length] at this; rw [this]; rfl, by omega, hbe⟩

theorem contains_calls (g : FuncId) (he : Enters Tryz.prog g) (cb : Nat) (p : Int → Bool) (v : Value) (l : List Int) (w : World) (hl : IntsAt w v l)
  (hg : ∀ x ∈ l, ∀ wx, Below w.heap.size w wx → Calls Tryz.prog g #[.int .i64 x, .pointer (some ⟨cb, 0, none⟩)] wx (BoolR (p x) wx)) :
  Calls Tryz.prog 80 #[v, .func (.func g) #[] #[.pointer (some ⟨cb, 0, none⟩)]] w (BoolR (l.any p) w) := by
 have HC := hid (index_calls g he cb p v l w hl hg)
 clear hg hl he
 go_enter Tryz.func80, Tryz.ntmps80
 go_wp2_with fail
 refine HC.out.mono ?_
 rintro e w1 ⟨i, rfl, hi, hm, hb1⟩
 have HI := hid hi
 clear hi
 go_wp2
 all_goals
  go_ret
  refine ⟨?_, hb1⟩
  rw [← HI.out]
  first | rfl | (congr 2; simp; omega)
end Go.Proofs.YtpejpnffcepdlaaGreatDoor.TyB
namespace Go.Proofs.YtpejpnffcepdlaaGreatDoor.TyC
open Go.RowKit Go.Lib SetP IntO TyM TyP TyB

theorem below1_calls (x m : Int) (b : Nat) (w : World) (hc : w.cell? ⟨b, 0, none⟩ = some (.int .i64 m)) :
  Calls Tryz.prog 136 #[.int .i64 x, .pointer (some ⟨b, 0, none⟩)] w (BoolR (!decide (0 ≤ x ∧ x < m)) w) := by
 by_cases h0 : x < 0
 ·have hd : decide (0 ≤ x ∧ x < m) = false := by simp; omega
  rw [hd]
  go_enter Tryz.func136, Tryz.ntmps136
  go_wp2
  go_ret
  exact ⟨rfl, Below.refl _ _⟩
 ·by_cases h1 : m ≤ x
  ·have hd : decide (0 ≤ x ∧ x < m) = false := by simp; omega
   rw [hd]
   go_enter Tryz.func136, Tryz.ntmps136
   go_wp2
   go_ret
   exact ⟨rfl, Below.refl _ _⟩
  ·have hd : decide (0 ≤ x ∧ x < m) = true := by simp; omega
   rw [hd]
   go_enter Tryz.func136, Tryz.ntmps136
   go_wp2
   go_ret
   exact ⟨rfl, Below.refl _ _⟩

theorem low_not (m : Int) (l : List Int) : (!l.any fun x => !decide (0 ≤ x ∧ x < m)) = lowB m l := by
 unfold lowB
 simp [List.any_eq_not_all_not]

theorem below_calls (m : Int) (v : Value) (l : List Int) (w : World) (hl : IntsAt w v l) :
  Calls Tryz.prog 83 #[.int .i64 m, v] w (BoolR (lowB m l) w) := by
 have hb0 : Below w.heap.size w (w.alloc (.cells #[.int .i64 m] 3)) := (Below.refl _ _).alloc (Nat.le_refl _) _
 have HC := hid (contains_calls 136 (enters_of Tryz.func136 (by kernel_rfl) rfl) w.heap.size (fun x => !decide (0 ≤ x ∧ x < m)) v l _ (hl.below hb0)
  (fun x _ wx hbx => below1_calls x m w.heap.size wx ((hbx.cell (p := ⟨w.heap.size, 0, none⟩) (by simp)).trans (by simp))))
 rw [← low_not]
 generalize l.any (fun x => !decide (0 ≤ x ∧ x < m)) = b at *
 clear hl
 cases b <;>
 ·go_enter Tryz.func83, Tryz.ntmps83
  go_wp2_with fail
  refine HC.out.mono ?_
  rintro e w1 ⟨rfl, hb1⟩
  have hbe := hb0.trans (hb1.mono hb0.size)
  clear hb1
  go_wp2
  go_ret
  exact ⟨rfl, hbe⟩

/-- a type's value, in a table -/
theorem scalars1_calls (t : List Ty) (v : Value) (x : Int) (b : Nat) (w : World) (hc : w.cell? ⟨b, 0, none⟩ = some v) (ht : TysAt w v t) (h0 : 0 ≤ x) (h1 : x < t.length) :
  Calls Tryz.prog 189 #[.int .i64 x, .pointer (some ⟨b, 0, none⟩)] w (BoolR (!plainB t x) w) := by
 obtain ⟨k, rfl⟩ : ∃ k : Nat, x = k := ⟨x.toNat, by omega⟩
 have hk : k < t.length := by omega
 rw [plainB_at (List.getElem?_eq_getElem hk)]
 obtain ⟨ao, cap, rfl⟩ := ht.slice
 obtain ⟨tb, off, rfl, hlt, pv, c0, c1, c2, c3, hp⟩ := ht.at k hk
 have HC := hid (scalar_calls t[k] pv w)
 clear ht hp h1
 generalize t[k] = y at *
 generalize t.length = n at *
 cases hs : scalarK y.kind <;>
 ·rw [hs] at HC
  clear hs
  go_enter Tryz.func189, Tryz.ntmps189
  go_wp2_with fail
  refine HC.out.mono ?_
  rintro e w1 ⟨rfl, hb1⟩
  go_wp2
  go_ret
  exact ⟨rfl, hb1⟩

theorem plains_not (t : List Ty) (l : List Int) : (!l.any fun x => !plainB t x) = plainsB t l := by
 unfold plainsB
 simp [List.any_eq_not_all_not]

set_option maxHeartbeats 400000 in
theorem scalars_calls (t : List Ty) (v va : Value) (l : List Int) (w : World) (ht : TysAt w v t) (hl : IntsAt w va l) :
  Calls Tryz.prog 154 #[v, va] w (BoolR (plainsB t l) w) := by
 have hb0 : Below w.heap.size w (w.alloc (.cells #[v] 24)) := (Below.refl _ _).alloc (Nat.le_refl _) _
 have HB := hid (below_calls t.length va l _ (hl.below hb0))
 obtain ⟨ao, cap, rfl⟩ := ht.slice
 have HT := hid ht
 have HL := hid hl
 cases hlow : lowB t.length l with
 | false =>
  rw [hlow] at HB
  have hpl : plainsB t l = false := by
   cases hp : plainsB t l with
   | false => rfl
   | true => rw [plainsB_low hp] at hlow; cases hlow
  rw [hpl]
  clear hlow hpl ht hl
  generalize t.length = n at *
  go_enter Tryz.func154, Tryz.ntmps154
  go_wp2_with fail
  refine HB.out.mono ?_
  rintro e w1 ⟨rfl, hb1⟩
  have hbe := hb0.trans (hb1.mono hb0.size)
  clear hb1
  go_wp2
  go_ret
  exact ⟨rfl, hbe⟩
 | true =>
  rw [hlow] at HB
  have HIN := hid (lowB_iff.1 hlow)
  have HC := hid (fun w1 (hb1 : Below (w.alloc (.cells #[Value.slice ao t.length cap] 24)).heap.size (w.alloc (.cells #[Value.slice ao t.length cap] 24)) w1) =>
   contains_calls 189 (enters_of Tryz.func189 (by kernel_rfl) rfl) w.heap.size (fun x => !plainB t x) va l w1 ((HL.out.below hb0).below hb1)
    (fun x hx wx hbx => scalars1_calls t (.slice ao t.length cap) x w.heap.size wx
     ((hbx.cell (p := ⟨w.heap.size, 0, none⟩) (Nat.lt_of_lt_of_le (by simp) hb1.size)).trans ((hb1.cell (p := ⟨w.heap.size, 0, none⟩) (by simp)).trans (by simp)))
     (((HT.out.below hb0).below hb1).below hbx) (HIN.out x hx).1 (HIN.out x hx).2))
  rw [← plains_not]
  clear hlow ht hl HIN
  generalize l.any (fun x => !plainB t x) = b at *
  clear HT
  generalize t.length = n at *
  cases b <;>
  ·go_enter Tryz.func154, Tryz.ntmps154
   go_wp2_with fail
   refine HB.out.mono ?_
   rintro e w1 ⟨rfl, hb1⟩
   have HC1 := hid (HC.out w1 hb1)
   have hbe := hb0.trans (hb1.mono hb0.size)
   clear hb1
   go_wp2_with fail
   refine HC1.out.mono ?_
   rintro e w2 ⟨rfl, hb2⟩
   have hbe2 := hbe.trans (hb2.mono hbe.size)
   clear hb2 hbe
   go_wp2
   go_ret
   exact ⟨rfl, hbe2⟩
end Go.Proofs.YtpejpnffcepdlaaGreatDoor.TyC
namespace Go.Proofs.YtpejpnffcepdlaaGreatDoor.RcU
open Go.RowKit Go.Lib SetP IntO TyM TyP TyB TyC

set_option maxRecDepth 100000 in
set_option maxHeartbeats 1000000 in
theorem index_calls (v : Value) (l : List Int) (x : Int) (w : World) (hl : IntsAt w v l) :
  Calls Tryz.prog 98 #[v, .int .i64 x] w fun e w' => ∃ r : Int, e = .returned (.int .i64 r) ∧ (0 ≤ r ↔ x ∈ l) ∧ w = w' := by
 have HL := hid hl
 obtain ⟨ao, cap, rfl, hlen⟩ := ints_slice hl
 clear hl
 go_enter Tryz.func98, Tryz.ntmps98
 go_wp2_with fail
 go_loopg [5, 8] l.length (fun gk _ i wr => ∃ k : Nat, k + gk = l.length ∧ i = .int .i64 k ∧ wr = w ∧ x ∉ l.take k)
 case atStart => exact ⟨0, by omega, rfl, rfl, by simp⟩
 case round =>
  obtain ⟨k, hk, rfl, rfl, hn⟩ := hrel
  have HK := hid hk
  have HN := hid hn
  clear hk hn
  by_cases hlt : k < l.length
  rotate_left
  ·have hke : k = l.length := by have := HK.out; omega
   subst hke
   have hno : x ∉ l := by have := HN.out; rwa [List.take_length] at this
   have HNO := hid hno
   clear HN hno hlt
   generalize l.length = n at *
   go_wp2
   go_ret
   exact ⟨-1, rfl, ⟨fun h => by omega, fun h => absurd h HNO.out⟩, rfl⟩
  obtain ⟨b, off, rfl, hb, c0⟩ := ints_at HL.out k hlt
  have hk2 : (k : Int) < l.length := by omega
  by_cases he : x = l[k]
  ·have hm : x ∈ l := he ▸ List.getElem_mem hlt
   have HM := hid hm
   have e1 : (x == l[k]) = true := by simpa using he
   clear hm HN
   generalize l[k] = y at *
   clear he
   go_wp2
   go_ret
   exact ⟨k, rfl, ⟨fun _ => HM.out, fun _ => by omega⟩, rfl⟩
  ·have e1 : (x == l[k]) = false := by simpa using he
   have HN2 : Hid (x ∉ l.take (k + 1)) := by
    show ¬ _
    rw [List.take_succ_eq_append_getElem hlt]
    intro h
    rcases List.mem_append.1 h with h | h
    ·exact HN.out h
    ·exact he (List.mem_singleton.1 h)
   clear HN he
   generalize l[k] = y at *
   go_wp2
   go_roundg (gk - 1)
   case measure => have := HK.out; omega
   case rel => exact ⟨k + 1, by have := HK.out; omega, by go_num, rfl, HN2.out⟩
set_option maxHeartbeats 1000000 in
theorem contains_calls (v : Value) (l : List Int) (x : Int) (w : World) (hl : IntsAt w v l) :
  Calls Tryz.prog 59 #[v, .int .i64 x] w fun e w' => e = .returned (.bool (decide (x ∈ l))) ∧ w = w' := by
 have HC := hid (index_calls v l x w hl)
 obtain ⟨ao, cap, rfl, hlen⟩ := ints_slice hl
 clear hl
 go_enter Tryz.func59, Tryz.ntmps59
 go_wp2_with fail
 refine HC.out.mono ?_
 rintro e w1 ⟨r, rfl, hr, rfl⟩
 have hq : decide (x ∈ l) = decide (0 ≤ r) := by simp only [hr]
 have HQ := hid hq
 clear hr HC hq
 go_wp2
 go_ret
 exact ⟨by rw [HQ.out]; rfl, rfl⟩
end Go.Proofs.YtpejpnffcepdlaaGreatDoor.RcU
namespace Go.Proofs.YtpejpnffcepdlaaGreatDoor.FkC
open Go.RowKit Go.Lib SetP IntO TyM TyP TyB TyC

theorem contains_calls (v : Value) (l : List Int) (x : Int) (w : World) (h : IntsAt w v l) : Calls Tryz.prog 59 #[v, .int .i64 x] w fun e w' => e = .returned (.bool (l.contains x)) ∧ w = w' := by
 refine (RcU.contains_calls v l x w h).mono ?_
 rintro e w' ⟨rfl, rfl⟩
 refine ⟨?_, rfl⟩
 congr 2
 rw [Bool.eq_iff_iff, decide_eq_true_iff, List.contains_iff_mem]
end Go.Proofs.YtpejpnffcepdlaaGreatDoor.FkC
namespace Go.Proofs.YtpejpnffcepdlaaGreatDoor.TyD
open Go.RowKit Go.Lib SetP IntO TyM TyP TyB TyC

theorem ret_bool {a b : Bool} (h : a = b) : Ending.returned (.bool a) = .returned (.bool b) := by rw [h]
theorem low_one {m n : Int} : lowB m [n] = decide (0 ≤ n ∧ n < m) := by simp [lowB]
theorem plains_one {t : List Ty} {n : Int} : plainsB t [n] = plainB t n := by simp [plainsB]
theorem alloc_new (w : World) (o : Obj) : (w.alloc o).heap[w.heap.size]? = some o := by
 show (w.heap.push o)[w.heap.size]? = some o
 simp
theorem alloc_old {w : World} {b : Nat} {o : Obj} (h : w.heap[b]? = some o) (o' : Obj) : (w.alloc o').heap[b]? = some o :=
 (Below.heap_alloc _ _ _ (Array.getElem?_eq_some_iff.1 h).1).trans h
theorem set_copy {w w1 : World} {i : Nat} {v : Value} (h : Below w.heap.size w w1) : Below w.heap.size w (w1.setCell ⟨w.heap.size, i, none⟩ v) := h.setCell (Nat.le_refl _) _
theorem set_heap {w : World} {b i : Nat} {cs : Array Value} {t : TypeId} (u : Value) (h : w.heap[b]? = some (.cells cs t (0, 0))) : (w.setCell ⟨b, i, none⟩ u).heap[b]? = some (.cells (cs.setIfInBounds i u) t (0, 0)) := by
 obtain ⟨hlt, hk⟩ := Array.getElem?_eq_some_iff.1 h
 show (w.heap.modify b _)[b]? = _
 rw [Array.getElem?_eq_getElem (by rw [Array.size_modify]; exact hlt), Array.getElem_modify_self, hk]
 rfl
theorem size_set (w : World) (a : Addr) (v : Value) : (w.setCell a v).heap.size = w.heap.size := by simp [World.setCell]
theorem cell_new (w : World) (v : Value) (t : TypeId) (n : Nat) (h : w.heap.size = n) : (w.alloc (.cells #[v] t)).cell? ⟨n, 0, none⟩ = some v := by subst h; simp
theorem size_new (w : World) (o : Obj) (n : Nat) (h : w.heap.size = n) : n < (w.alloc o).heap.size := by subst h; simp
/-- what is known of a copy behind a call -/
theorem copy_facts {W w1 : World} {b : Nat} {cs : Array Value} (hw : W.heap[b]? = some (.cells cs 43 (0, 0))) (hb : Below W.heap.size W w1) :
  (∀ i (h : i < cs.size), w1.cell? ⟨b, i, none⟩ = some cs[i]) ∧ (∀ i, w1.frozen? ⟨b, i, none⟩ = false) ∧ b < w1.heap.size ∧ w1.heap[b]? = some (.cells cs 43 (0, 0)) := by
 have hlt := (Array.getElem?_eq_some_iff.1 hw).1
 have hk := (hb.block b hlt).trans hw
 refine ⟨fun i h => ?_, fun i => ?_, Nat.lt_of_lt_of_le hlt hb.size, hk⟩
 ·unfold World.cell?; rw [hk]; simp [h]
 ·unfold World.frozen?; rw [hk]; simp

set_option maxHeartbeats 1000000 in
theorem may_int (t : List Ty) (v : Value) (k : Nat) (x : Ty) (w : World) (ht : TysAt w v t) (hx : t[k]? = some x) (hkd : x.kind = 1) :
  Calls Tryz.prog 107 #[v, .int .i64 k] w (BoolR (mayX t k x) w) := by
 obtain ⟨hk, rfl⟩ := List.getElem?_eq_some_iff.1 hx
 obtain ⟨ao, cap, rfl⟩ := ht.slice
 have HT := hid ht
 obtain ⟨tb, off, rfl, hlt, pv, c0, c1, c2, c3, hp⟩ := ht.at k hk
 rw [hkd] at c0
 have HM : Hid (mayX t k t[k] = (decide (t[k].elem = 0) && (decide (t[k].many = 0) && decide (t[k].parts.length = 0)))) := by
  show _ = _
  unfold mayX; rw [if_pos hkd]
 rw [HM.out]
 clear HM
 have HP := hid hp
 obtain ⟨pa, pc, rfl, hpl⟩ := ints_slice hp
 clear ht hp hx hkd HT HP
 generalize t[k] = y at *
 obtain ⟨yk, ye, ym, yp⟩ := y
 simp only at *
 generalize t.length = n at *
 generalize yp.length = pn at *
 have hb0 : Below w.heap.size w (w.alloc (.cells #[.int .u8 1, .int .i64 ye, .int .i64 ym, .slice pa pn pc] 43)) := (Below.refl _ _).alloc (Nat.le_refl _) _
 go_enter Tryz.func107, Tryz.ntmps107
 go_wp2
 all_goals
  go_ret
  refine ⟨ret_bool ?_, ?_⟩
  ·first | rfl | (rw [Bool.eq_iff_iff]; simp; omega) | (simp [*]; done)
  ·first | assumption | exact (Below.refl _ _).alloc (Nat.le_refl _) _ | exact set_copy (by assumption) | exact set_copy (set_copy (by assumption))

set_option maxHeartbeats 1000000 in
theorem may_ptr (t : List Ty) (v : Value) (k : Nat) (x : Ty) (w : World) (ht : TysAt w v t) (hx : t[k]? = some x) (hkd : x.kind = 2) :
  Calls Tryz.prog 107 #[v, .int .i64 k] w (BoolR (mayX t k x) w) := by
 obtain ⟨hk, rfl⟩ := List.getElem?_eq_some_iff.1 hx
 obtain ⟨ao, cap, rfl⟩ := ht.slice
 have HT := hid ht
 obtain ⟨tb, off, rfl, hlt, pv, c0, c1, c2, c3, hp⟩ := ht.at k hk
 rw [hkd] at c0
 have HM : Hid (mayX t k t[k] = (lowB t.length [t[k].elem] && (decide (t[k].many = 0) && decide (t[k].parts.length = 0)))) := by
  show _ = _
  unfold mayX; rw [if_neg (by omega), if_pos hkd]
 rw [HM.out]
 clear HM
 have HP := hid hp
 obtain ⟨pa, pc, rfl, hpl⟩ := ints_slice hp
 have HB := hid (fun wx b (h : wx.cell? ⟨b, 0, none⟩ = some (.int .i64 t[k].elem)) hb => below_calls t.length (.slice (some ⟨b, 0, none⟩) 1 1) [t[k].elem] wx (ints_one h hb))
 generalize lowB t.length [t[k].elem] = lb at *
 clear ht hp hx hkd HT HP
 generalize t[k] = y at *
 obtain ⟨yk, ye, ym, yp⟩ := y
 simp only at *
 generalize t.length = n at *
 generalize yp.length = pn at *
 have hb0 : Below w.heap.size w ((w.alloc (.cells #[.int .u8 2, .int .i64 ye, .int .i64 ym, .slice pa pn pc] 43)).alloc (.cells #[.int .i64 ye] 3)) := ((Below.refl _ _).alloc (Nat.le_refl _) _).alloc (by simp) _
 have HC := hid (HB.out ((w.alloc (.cells #[.int .u8 2, .int .i64 ye, .int .i64 ym, .slice pa pn pc] 43)).alloc (.cells #[.int .i64 ye] 3)) (w.heap.size + 1) (by simp) (by simp))
 have HK : Hid (((w.alloc (.cells #[.int .u8 2, .int .i64 ye, .int .i64 ym, .slice pa pn pc] 43)).alloc (.cells #[.int .i64 ye] 3)).heap[w.heap.size]? = some (.cells #[.int .u8 2, .int .i64 ye, .int .i64 ym, .slice pa pn pc] 43 (0, 0))) := hid <| alloc_old (alloc_new _ _) _
 clear HB
 cases lb <;>
 ·go_enter Tryz.func107, Tryz.ntmps107
  go_wp2_with (go_at_call 83; refine HC.out.mono ?_; rintro e w1 ⟨rfl, hb1⟩; have hbe := hb0.trans (hb1.mono hb0.size); obtain ⟨cf, fz, hsz, _⟩ := copy_facts HK.out hb1; have d1 := cf 1 (by simp); have d2 := cf 2 (by simp); have d3 := cf 3 (by simp); have z1 := fz 1; simp only [List.getElem_toArray, List.getElem_cons_succ, List.getElem_cons_zero] at d1 d2 d3; clear hb1 cf fz)
  all_goals
   go_ret
   refine ⟨ret_bool ?_, ?_⟩
   ·first | rfl | (rw [Bool.eq_iff_iff]; simp; omega) | (simp [*]; done)
   ·first | assumption | exact (Below.refl _ _).alloc (Nat.le_refl _) _ | exact set_copy (by assumption) | exact set_copy (set_copy (by assumption))
set_option maxHeartbeats 1000000 in
theorem may_fn (t : List Ty) (v : Value) (k : Nat) (x : Ty) (w : World) (ht : TysAt w v t) (hx : t[k]? = some x) (hkd : x.kind = 3) :
  Calls Tryz.prog 107 #[v, .int .i64 k] w (BoolR (mayX t k x) w) := by
 obtain ⟨hk, rfl⟩ := List.getElem?_eq_some_iff.1 hx
 obtain ⟨ao, cap, rfl⟩ := ht.slice
 have HT := hid ht
 obtain ⟨tb, off, rfl, hlt, pv, c0, c1, c2, c3, hp⟩ := ht.at k hk
 rw [hkd] at c0
 have HM : Hid (mayX t k t[k] = (decide (t[k].parts.length ≤ 4) && (plainB t t[k].elem && (plainsB t t[k].parts && decide (t[k].many = 0))))) := by
  show _ = _
  unfold mayX; rw [if_neg (by omega), if_neg (by omega), if_pos hkd]
 rw [HM.out]
 clear HM
 have HP := hid hp
 obtain ⟨pa, pc, rfl, hpl⟩ := ints_slice hp
 rw [← plains_one]
 have HA := hid (fun wx b (hw : Below w.heap.size w wx) (h : wx.cell? ⟨b, 0, none⟩ = some (.int .i64 t[k].elem)) hb => scalars_calls t _ (.slice (some ⟨b, 0, none⟩) 1 1) [t[k].elem] wx (HT.out.below hw) (ints_one h hb))
 have HB := hid (fun wx (hw : Below w.heap.size w wx) => scalars_calls t _ _ t[k].parts wx (HT.out.below hw) (HP.out.below hw))
 generalize plainsB t [t[k].elem] = la at *
 generalize plainsB t t[k].parts = lb at *
 clear ht hp hx hkd HT HP
 generalize t[k] = y at *
 obtain ⟨yk, ye, ym, yp⟩ := y
 simp only at *
 generalize t.length = n at *
 generalize yp.length = pn at *
 have hb0 : Below w.heap.size w ((w.alloc (.cells #[.int .u8 3, .int .i64 ye, .int .i64 ym, .slice pa pn pc] 43)).alloc (.cells #[.int .i64 ye] 3)) := ((Below.refl _ _).alloc (Nat.le_refl _) _).alloc (by simp) _
 have HC := hid (HA.out ((w.alloc (.cells #[.int .u8 3, .int .i64 ye, .int .i64 ym, .slice pa pn pc] 43)).alloc (.cells #[.int .i64 ye] 3)) (w.heap.size + 1) hb0 (by simp) (by simp))
 have HK : Hid (((w.alloc (.cells #[.int .u8 3, .int .i64 ye, .int .i64 ym, .slice pa pn pc] 43)).alloc (.cells #[.int .i64 ye] 3)).heap[w.heap.size]? = some (.cells #[.int .u8 3, .int .i64 ye, .int .i64 ym, .slice pa pn pc] 43 (0, 0))) := hid <| alloc_old (alloc_new _ _) _
 clear HA
 cases la <;> cases lb <;>
 ·go_enter Tryz.func107, Tryz.ntmps107
  go_wp2_with (first | (go_at_call 154; refine HC.out.mono ?_; rintro e w1 ⟨rfl, hb1⟩; have hbe := hb0.trans (hb1.mono hb0.size); obtain ⟨cf, fz, hsz, hk1⟩ := copy_facts HK.out hb1; have d1 := cf 1 (by simp); have d2 := cf 2 (by simp); have d3 := cf 3 (by simp); have z1 := fz 1; have z2 := fz 2; simp only [List.getElem_toArray, List.getElem_cons_succ, List.getElem_cons_zero] at d1 d2 d3; clear hb1 cf fz; have HK1 := hid hk1; clear hk1 HC) | (go_at_call 154; refine (HB.out _ (by assumption)).mono ?_; rintro e w2 ⟨rfl, hb1⟩; have hbe2 := hbe.trans (hb1.mono hbe.size); clear hbe d1 d2 d3 z1 z2 hsz; obtain ⟨cf, fz, hsz, _⟩ := copy_facts HK1.out hb1; have d1 := cf 1 (by simp); have d2 := cf 2 (by simp); have d3 := cf 3 (by simp); have z1 := fz 1; have z2 := fz 2; simp only [List.getElem_toArray, List.getElem_cons_succ, List.getElem_cons_zero] at d1 d2 d3; clear hb1 cf fz))
  all_goals
   go_ret
   refine ⟨ret_bool ?_, ?_⟩
   ·first | rfl | (rw [Bool.eq_iff_iff]; simp; omega) | (simp [*]; done)
   ·first | assumption | exact (Below.refl _ _).alloc (Nat.le_refl _) _ | exact set_copy (by assumption) | exact set_copy (set_copy (by assumption))

set_option maxHeartbeats 1000000 in
theorem may_struct (t : List Ty) (v : Value) (k : Nat) (x : Ty) (w : World) (ht : TysAt w v t) (hx : t[k]? = some x) (hkd : x.kind = 4) :
  Calls Tryz.prog 107 #[v, .int .i64 k] w (BoolR (mayX t k x) w) := by
 obtain ⟨hk, rfl⟩ := List.getElem?_eq_some_iff.1 hx
 obtain ⟨ao, cap, rfl⟩ := ht.slice
 have HT := hid ht
 obtain ⟨tb, off, rfl, hlt, pv, c0, c1, c2, c3, hp⟩ := ht.at k hk
 rw [hkd] at c0
 have HM : Hid (mayX t k t[k] = (decide (1 ≤ t[k].parts.length) && (decide (t[k].parts.length ≤ 8) && (lowB k t[k].parts && (decide (t[k].elem = 0) && decide (t[k].many = 0)))))) := by
  show _ = _
  unfold mayX; rw [if_neg (by omega), if_neg (by omega), if_neg (by omega), if_pos hkd]
 rw [HM.out]
 clear HM
 have HP := hid hp
 obtain ⟨pa, pc, rfl, hpl⟩ := ints_slice hp
 have HB := hid (fun wx (hw : Below w.heap.size w wx) => below_calls k _ t[k].parts wx (HP.out.below hw))
 generalize lowB k t[k].parts = lb at *
 clear ht hp hx hkd HT HP
 generalize t[k] = y at *
 obtain ⟨yk, ye, ym, yp⟩ := y
 simp only at *
 generalize t.length = n at *
 generalize yp.length = pn at *
 have hb0 : Below w.heap.size w (w.alloc (.cells #[.int .u8 4, .int .i64 ye, .int .i64 ym, .slice pa pn pc] 43)) := (Below.refl _ _).alloc (Nat.le_refl _) _
 have HC := hid (HB.out (w.alloc (.cells #[.int .u8 4, .int .i64 ye, .int .i64 ym, .slice pa pn pc] 43)) hb0)
 have HK : Hid ((w.alloc (.cells #[.int .u8 4, .int .i64 ye, .int .i64 ym, .slice pa pn pc] 43)).heap[w.heap.size]? = some (.cells #[.int .u8 4, .int .i64 ye, .int .i64 ym, .slice pa pn pc] 43 (0, 0))) := hid <| alloc_new _ _
 clear HB
 cases lb <;>
 ·go_enter Tryz.func107, Tryz.ntmps107
  go_wp2_with (go_at_call 83; refine HC.out.mono ?_; rintro e w1 ⟨rfl, hb1⟩; have hbe := hb0.trans (hb1.mono hb0.size); obtain ⟨cf, fz, hsz, _⟩ := copy_facts HK.out hb1; have d1 := cf 1 (by simp); have d2 := cf 2 (by simp); have d3 := cf 3 (by simp); have z1 := fz 1; have z2 := fz 2; simp only [List.getElem_toArray, List.getElem_cons_succ, List.getElem_cons_zero] at d1 d2 d3; clear hb1 cf fz)
  all_goals
   go_ret
   refine ⟨ret_bool ?_, ?_⟩
   ·first | rfl | (rw [Bool.eq_iff_iff]; simp; omega) | (simp [*]; done)
   ·first | assumption | exact (Below.refl _ _).alloc (Nat.le_refl _) _ | exact set_copy (by assumption) | exact set_copy (set_copy (by assumption))

set_option maxHeartbeats 1000000 in
theorem may_array (t : List Ty) (v : Value) (k : Nat) (x : Ty) (w : World) (ht : TysAt w v t) (hx : t[k]? = some x) (hkd : x.kind = 5) :
  Calls Tryz.prog 107 #[v, .int .i64 k] w (BoolR (mayX t k x) w) := by
 obtain ⟨hk, rfl⟩ := List.getElem?_eq_some_iff.1 hx
 obtain ⟨ao, cap, rfl⟩ := ht.slice
 have HT := hid ht
 obtain ⟨tb, off, rfl, hlt, pv, c0, c1, c2, c3, hp⟩ := ht.at k hk
 rw [hkd] at c0
 have HM : Hid (mayX t k t[k] = (decide (1 ≤ t[k].many) && (decide (t[k].many ≤ 16) && (lowB k [t[k].elem] && decide (t[k].parts.length = 0))))) := by
  show _ = _
  unfold mayX; rw [if_neg (by omega), if_neg (by omega), if_neg (by omega), if_neg (by omega), if_pos hkd]
 rw [HM.out]
 clear HM
 have HP := hid hp
 obtain ⟨pa, pc, rfl, hpl⟩ := ints_slice hp
 have HX : Hid (lowB k [t[k].elem] = true → lowB t.length [t[k].elem] = true) := by
  intro h
  rw [low_one] at h ⊢
  have := of_decide_eq_true h
  exact decide_eq_true (by omega)
 have HA := hid (fun wx b (h : wx.cell? ⟨b, 0, none⟩ = some (.int .i64 t[k].elem)) hb => below_calls k (.slice (some ⟨b, 0, none⟩) 1 1) [t[k].elem] wx (ints_one h hb))
 have HB := hid (fun wx b (h : wx.cell? ⟨b, 0, none⟩ = some (.int .i64 t[k].elem)) hb => below_calls t.length (.slice (some ⟨b, 0, none⟩) 1 1) [t[k].elem] wx (ints_one h hb))
 generalize lowB k [t[k].elem] = la at *
 generalize lowB t.length [t[k].elem] = lb at *
 clear ht hp hx hkd HT HP
 generalize t[k] = y at *
 obtain ⟨yk, ye, ym, yp⟩ := y
 simp only at *
 generalize t.length = n at *
 generalize yp.length = pn at *
 have hb0 : Below w.heap.size w ((w.alloc (.cells #[.int .u8 5, .int .i64 ye, .int .i64 ym, .slice pa pn pc] 43)).alloc (.cells #[.int .i64 ye] 3)) := ((Below.refl _ _).alloc (Nat.le_refl _) _).alloc (by simp) _
 have HC := hid (HA.out ((w.alloc (.cells #[.int .u8 5, .int .i64 ye, .int .i64 ym, .slice pa pn pc] 43)).alloc (.cells #[.int .i64 ye] 3)) (w.heap.size + 1) (by simp) (by simp))
 have HK : Hid (((w.alloc (.cells #[.int .u8 5, .int .i64 ye, .int .i64 ym, .slice pa pn pc] 43)).alloc (.cells #[.int .i64 ye] 3)).heap[w.heap.size]? = some (.cells #[.int .u8 5, .int .i64 ye, .int .i64 ym, .slice pa pn pc] 43 (0, 0))) := hid <| alloc_old (alloc_new _ _) _
 clear HA
 cases la with
 | false =>
  clear HB HX
  go_enter Tryz.func107, Tryz.ntmps107
  go_wp2_with (go_at_call 83; refine HC.out.mono ?_; rintro e w1 ⟨rfl, hb1⟩; have hbe := hb0.trans (hb1.mono hb0.size); obtain ⟨cf, fz, hsz, hk1⟩ := copy_facts HK.out hb1; have d1 := cf 1 (by simp); have d2 := cf 2 (by simp); have d3 := cf 3 (by simp); have z1 := fz 1; have z2 := fz 2; simp only [List.getElem_toArray, List.getElem_cons_succ, List.getElem_cons_zero] at d1 d2 d3; clear hb1 cf fz; clear HC; clear hk1)
  all_goals
   go_ret
   refine ⟨ret_bool ?_, ?_⟩
   ·first | rfl | (rw [Bool.eq_iff_iff]; simp; omega) | (simp [*]; done)
   ·first | assumption | exact (Below.refl _ _).alloc (Nat.le_refl _) _ | exact set_copy (by assumption) | exact set_copy (set_copy (by assumption))
 | true =>
  obtain rfl := HX.out rfl
  clear HX
  by_cases hc : ym < 1
  ·clear HB
   go_enter Tryz.func107, Tryz.ntmps107
   go_wp2
   all_goals
    go_ret
    refine ⟨ret_bool ?_, ?_⟩
    ·first | rfl | (rw [Bool.eq_iff_iff]; simp; omega) | (simp [*]; done)
    ·first | assumption | exact (Below.refl _ _).alloc (Nat.le_refl _) _ | exact set_copy (by assumption) | exact set_copy (set_copy (by assumption))
  have h1 : 1 ≤ ym := by omega
  clear hc
  by_cases hc : 1 ≤ ym ∧ 16 < ym
  ·clear HB
   obtain ⟨hc1, hc2⟩ := hc
   go_enter Tryz.func107, Tryz.ntmps107
   go_wp2
   all_goals
    go_ret
    refine ⟨ret_bool ?_, ?_⟩
    ·first | rfl | (rw [Bool.eq_iff_iff]; simp; omega) | (simp [*]; done)
    ·first | assumption | exact (Below.refl _ _).alloc (Nat.le_refl _) _ | exact set_copy (by assumption) | exact set_copy (set_copy (by assumption))
  have h2 : ym ≤ 16 := by omega
  clear hc
  go_enter Tryz.func107, Tryz.ntmps107
  go_wp2_with fail
  any_goals (exfalso; omega)
  refine HC.out.mono ?_
  rintro e w1 ⟨rfl, hb1⟩
  have hbe := hb0.trans (hb1.mono hb0.size)
  obtain ⟨cf, fz, hsz, hk1⟩ := copy_facts HK.out hb1
  have d1 := cf 1 (by simp)
  have d2 := cf 2 (by simp)
  have d3 := cf 3 (by simp)
  have z1 := fz 1
  have z2 := fz 2
  simp only [List.getElem_toArray, List.getElem_cons_succ, List.getElem_cons_zero] at d1 d2 d3
  clear hb1 cf fz
  clear HC
  have HK1 := hid (alloc_old (set_heap (i := 2) (.int .i64 0) hk1) (.cells #[.int .i64 ye] 3))
  have HC2 := hid (HB.out ((w1.setCell ⟨w.heap.size, 2, none⟩ (.int .i64 0)).alloc (.cells #[.int .i64 ye] 3)) w1.heap.size (cell_new _ _ _ _ (size_set _ _ _)) (size_new _ _ _ (size_set _ _ _)))
  have hbx := (set_copy (i := 2) (v := .int .i64 0) hbe).alloc (by rw [size_set]; omega) (.cells #[.int .i64 ye] 3)
  clear hbe hk1 HB
  go_wp2_with fail
  refine HC2.out.mono ?_
  rintro e w2 ⟨rfl, hb1⟩
  have hbe2 := hbx.trans (hb1.mono hbx.size)
  clear hbx d1 d2 d3 z1 z2 hsz HC2
  obtain ⟨cf, fz, hsz, _⟩ := copy_facts HK1.out hb1
  have d1 := cf 1 (by simp)
  have d2 := cf 2 (by simp)
  have d3 := cf 3 (by simp)
  have z1 := fz 1
  simp at d1 d2 d3
  clear hb1 cf fz
  go_wp2
  all_goals
   go_ret
   refine ⟨ret_bool ?_, ?_⟩
   ·first | rfl | (rw [Bool.eq_iff_iff]; simp; omega) | (simp [*]; done)
   ·first | assumption | exact (Below.refl _ _).alloc (Nat.le_refl _) _ | exact set_copy (by assumption) | exact set_copy (set_copy (by assumption))

set_option maxHeartbeats 1000000 in
theorem may_none (t : List Ty) (v : Value) (k : Nat) (x : Ty) (w : World) (ht : TysAt w v t) (hx : t[k]? = some x) (n1 : x.kind ≠ 1) (n2 : x.kind ≠ 2) (n3 : x.kind ≠ 3) (n4 : x.kind ≠ 4) (n5 : x.kind ≠ 5) :
  Calls Tryz.prog 107 #[v, .int .i64 k] w (BoolR (mayX t k x) w) := by
 obtain ⟨hk, rfl⟩ := List.getElem?_eq_some_iff.1 hx
 obtain ⟨ao, cap, rfl⟩ := ht.slice
 obtain ⟨tb, off, rfl, hlt, pv, c0, c1, c2, c3, hp⟩ := ht.at k hk
 obtain ⟨pa, pc, rfl, hpl⟩ := ints_slice hp
 rw [show mayX t k t[k] = false by unfold mayX; rw [if_neg n1, if_neg n2, if_neg n3, if_neg n4, if_neg n5]]
 clear ht hp hx
 generalize t[k] = y at *
 obtain ⟨yk, ye, ym, yp⟩ := y
 simp only at *
 generalize t.length = n at *
 have e1 : (yk == 1) = false := by simpa using n1
 have e2 : (yk == 2) = false := by simpa using n2
 have e3 : (yk == 3) = false := by simpa using n3
 have e4 : (yk == 4) = false := by simpa using n4
 have e5 : (yk == 5) = false := by simpa using n5
 clear n1 n2 n3 n4 n5
 go_enter Tryz.func107, Tryz.ntmps107
 go_wp2
 all_goals
  go_ret
  refine ⟨ret_bool ?_, ?_⟩
  ·first | rfl | (rw [Bool.eq_iff_iff]; simp; omega) | (simp [*]; done)
  ·first | assumption | exact (Below.refl _ _).alloc (Nat.le_refl _) _ | exact set_copy (by assumption) | exact set_copy (set_copy (by assumption))

theorem may_calls (t : List Ty) (v : Value) (k : Nat) (x : Ty) (w : World) (ht : TysAt w v t) (hx : t[k]? = some x) :
  Calls Tryz.prog 107 #[v, .int .i64 k] w (BoolR (mayX t k x) w) := by
 by_cases h1 : x.kind = 1
 ·exact may_int t v k x w ht hx h1
 by_cases h2 : x.kind = 2
 ·exact may_ptr t v k x w ht hx h2
 by_cases h3 : x.kind = 3
 ·exact may_fn t v k x w ht hx h3
 by_cases h4 : x.kind = 4
 ·exact may_struct t v k x w ht hx h4
 by_cases h5 : x.kind = 5
 ·exact may_array t v k x w ht hx h5
 exact may_none t v k x w ht hx h1 h2 h3 h4 h5
end Go.Proofs.YtpejpnffcepdlaaGreatDoor.TyD
namespace Go.Proofs.YtpejpnffcepdlaaGreatDoor.TyQ
open Go.RowKit Go.Lib Go.Shelf SetP IntO TyM TyP TyB

theorem below_drewN {B : Nat} {w w1 : World} (h : Below B w w1) : ∀ n, Below B w (w1.drewN n)
 | 0 => h
 | n + 1 => (below_drewN h n).drew

/-- a list's first ones are another's -/
def Pre {α : Type} (a b : List α) (k : Nat) : Prop := a.take k = b.take k
theorem pre_succ {α : Type} {a b : List α} {k : Nat} (ha : k < a.length) (hb : k < b.length) (h : Pre a b k) (he : a[k] = b[k]) : Pre a b (k + 1) := by
 unfold Pre at *
 rw [List.take_succ_eq_append_getElem ha, List.take_succ_eq_append_getElem hb, h, he]
theorem pre_all {α : Type} {a b : List α} (hl : a.length = b.length) (h : Pre a b a.length) : a = b := by
 unfold Pre at h
 rwa [List.take_length, hl, List.take_length] at h
theorem ne_at {α : Type} {a b : List α} {k : Nat} (ha : k < a.length) (hb : k < b.length) (h : a[k] ≠ b[k]) : a ≠ b := by
 intro e; subst e; exact h rfl

end Go.Proofs.YtpejpnffcepdlaaGreatDoor.TyQ
namespace Go.Proofs.YtpejpnffcepdlaaGreatDoor.ShP
open Go.RowKit Go.Lib SetP IntO TyM TyP ShM TyB

/-- a slice that lies in memory: its value, and its elements, of so many cells each -/
def RowAt {α : Type} (sz : Nat) (In : World → Nat → Nat → α → Prop) (w : World) (v : Value) (l : List α) : Prop :=
 ∃ ao cap, v = .slice ao l.length cap ∧ l.length ≤ 9223372036854775807 ∧ (0 < l.length → ∃ b off, ao = some ⟨b, off, none⟩ ∧ b < w.heap.size ∧ ∀ i (h : i < l.length), In w b (off + i * sz) l[i]) ∧ (ao = none → cap = 0) ∧ l.length ≤ cap
def Stays {α : Type} (In : World → Nat → Nat → α → Prop) : Prop := ∀ (w w' : World) (b o : Nat) (x : α), In w b o x → b < w.heap.size → Below w.heap.size w w' → In w' b o x
theorem RowAt.below {α : Type} {sz : Nat} {In : World → Nat → Nat → α → Prop} (hs : Stays In) {w w' : World} {v : Value} {l : List α} (h : RowAt sz In w v l) (hb : Below w.heap.size w w') : RowAt sz In w' v l := by
 obtain ⟨ao, cap, hv, hl, hm, hz⟩ := h
 refine ⟨ao, cap, hv, hl, fun h0 => ?_, hz⟩
 obtain ⟨b, off, ha, hlt, hc⟩ := hm h0
 exact ⟨b, off, ha, Nat.lt_of_lt_of_le hlt hb.size, fun i hi => hs _ _ _ _ _ (hc i hi) hlt hb⟩
theorem RowAt.slice {α : Type} {sz : Nat} {In : World → Nat → Nat → α → Prop} {w : World} {v : Value} {l : List α} (h : RowAt sz In w v l) : ∃ ao cap, v = .slice ao l.length cap ∧ l.length ≤ 9223372036854775807 := by
 obtain ⟨ao, cap, hv, hl, _⟩ := h
 exact ⟨ao, cap, hv, hl⟩
theorem RowAt.at {α : Type} {sz : Nat} {In : World → Nat → Nat → α → Prop} {w : World} {ao : Option Addr} {n cap : Nat} {l : List α} (h : RowAt sz In w (.slice ao n cap) l) (k : Nat) (hk : k < l.length) : ∃ b off, ao = some ⟨b, off, none⟩ ∧ b < w.heap.size ∧ In w b (off + k * sz) l[k] := by
 obtain ⟨ao', cap', hv, hl, hm, hz⟩ := h
 cases hv
 obtain ⟨b, off, ha, hlt, hc⟩ := hm (by omega)
 exact ⟨b, off, ha, hlt, hc k hk⟩
theorem RowAt.cap {α : Type} {sz : Nat} {In : World → Nat → Nat → α → Prop} {w : World} {ao : Option Addr} {n cap : Nat} {l : List α} (h : RowAt sz In w (.slice ao n cap) l) : l.length ≤ cap := by
 obtain ⟨ao', cap', hv, _, _, _, hc⟩ := h
 cases hv; exact hc
theorem RowAt.len {α : Type} {sz : Nat} {In : World → Nat → Nat → α → Prop} {w : World} {ao : Option Addr} {n cap : Nat} {l : List α} (h : RowAt sz In w (.slice ao n cap) l) : n = l.length := by
 obtain ⟨ao', cap', hv, _⟩ := h
 cases hv; rfl
theorem RowAt.none {α : Type} {sz : Nat} {In : World → Nat → Nat → α → Prop} (w : World) : RowAt sz In w (.slice none 0 0) [] := ⟨.none, 0, rfl, by simp, (fun h => by simp at h), (fun _ => rfl), by simp⟩
/-- the first ones of a row -/
theorem RowAt.take {α : Type} {sz : Nat} {In : World → Nat → Nat → α → Prop} {w : World} {ao : Option Addr} {n cap : Nat} {l : List α} (h : RowAt sz In w (.slice ao n cap) l) (k : Nat) (hk : k ≤ l.length) : RowAt sz In w (.slice ao k cap) (l.take k) := by
 obtain ⟨ao', cap', hv, hl, hm, hz, hc⟩ := h
 cases hv
 have hlen : (l.take k).length = k := by rw [List.length_take]; omega
 refine ⟨ao, cap, by rw [hlen], by omega, fun h0 => ?_, hz, by omega⟩
 obtain ⟨b, off, ha, hlt, hcell⟩ := hm (by omega)
 refine ⟨b, off, ha, hlt, fun i hi => ?_⟩
 rw [List.getElem_take]
 exact hcell i (by omega)

/-- an instruction by value -/
abbrev ixV (x : Ix) (va vf : Value) : Value := .agg #[.int .u8 x.op, .int .i64 x.typ, .int .i64 x.a, .int .i64 x.b, .int .i64 x.n, va, vf]
abbrev exV (x : Ex) : Value := .agg #[.int .u8 x.kind, .int .i64 x.a, .int .i64 x.to, .int .i64 x.els]
abbrev bxV (x : Bx) (vi : Value) : Value := .agg #[vi, .int .u8 x.en.kind, .int .i64 x.en.a, .int .i64 x.en.to, .int .i64 x.en.els]
abbrev fxV (x : Fx) (vb : Value) : Value := .agg #[.int .i64 x.sig, vb]

def InsIn (w : World) (b o : Nat) (x : Ix) : Prop :=
 ∃ va vf, w.cell? ⟨b, o, none⟩ = some (.int .u8 x.op) ∧ w.cell? ⟨b, o + 1, none⟩ = some (.int .i64 x.typ) ∧ w.cell? ⟨b, o + 2, none⟩ = some (.int .i64 x.a) ∧ w.cell? ⟨b, o + 3, none⟩ = some (.int .i64 x.b) ∧ w.cell? ⟨b, o + 4, none⟩ = some (.int .i64 x.n) ∧
  w.cell? ⟨b, o + 5, none⟩ = some va ∧ w.cell? ⟨b, o + 6, none⟩ = some vf ∧ IntsAt w va x.args ∧ IntsAt w vf x.frm
theorem insStays : Stays InsIn := by
 intro w w' b o x h hlt hb
 obtain ⟨va, vf, h0, h1, h2, h3, h4, h5, h6, h7, h8⟩ := h
 exact ⟨va, vf, (hb.cell (p := ⟨b, _, none⟩) hlt).trans h0, (hb.cell (p := ⟨b, _, none⟩) hlt).trans h1, (hb.cell (p := ⟨b, _, none⟩) hlt).trans h2, (hb.cell (p := ⟨b, _, none⟩) hlt).trans h3, (hb.cell (p := ⟨b, _, none⟩) hlt).trans h4, (hb.cell (p := ⟨b, _, none⟩) hlt).trans h5, (hb.cell (p := ⟨b, _, none⟩) hlt).trans h6, h7.below hb, h8.below hb⟩
abbrev InsAt := RowAt 7 InsIn
def BlkIn (w : World) (b o : Nat) (x : Bx) : Prop :=
 ∃ vi, w.cell? ⟨b, o, none⟩ = some vi ∧ w.cell? ⟨b, o + 1, none⟩ = some (.int .u8 x.en.kind) ∧ w.cell? ⟨b, o + 2, none⟩ = some (.int .i64 x.en.a) ∧ w.cell? ⟨b, o + 3, none⟩ = some (.int .i64 x.en.to) ∧ w.cell? ⟨b, o + 4, none⟩ = some (.int .i64 x.en.els) ∧ InsAt w vi x.ins
theorem blkStays : Stays BlkIn := by
 intro w w' b o x h hlt hb
 obtain ⟨vi, h0, h1, h2, h3, h4, h5⟩ := h
 exact ⟨vi, (hb.cell (p := ⟨b, _, none⟩) hlt).trans h0, (hb.cell (p := ⟨b, _, none⟩) hlt).trans h1, (hb.cell (p := ⟨b, _, none⟩) hlt).trans h2, (hb.cell (p := ⟨b, _, none⟩) hlt).trans h3, (hb.cell (p := ⟨b, _, none⟩) hlt).trans h4, h5.below insStays hb⟩
abbrev BlksAt := RowAt 5 BlkIn
def FnIn (w : World) (b o : Nat) (x : Fx) : Prop :=
 ∃ vb, w.cell? ⟨b, o, none⟩ = some (.int .i64 x.sig) ∧ w.cell? ⟨b, o + 1, none⟩ = some vb ∧ BlksAt w vb x.blocks
theorem fnStays : Stays FnIn := by
 intro w w' b o x h hlt hb
 obtain ⟨vb, h0, h1, h2⟩ := h
 exact ⟨vb, (hb.cell (p := ⟨b, _, none⟩) hlt).trans h0, (hb.cell (p := ⟨b, _, none⟩) hlt).trans h1, h2.below blkStays hb⟩
abbrev FnsAt := RowAt 2 FnIn
/-- a program by value -/
def PrAt (w : World) (v : Value) (p : Px) : Prop := ∃ vt vf, v = .agg #[vt, vf] ∧ TysAt w vt p.types ∧ FnsAt w vf p.funcs
theorem PrAt.below {w w' : World} {v : Value} {p : Px} (h : PrAt w v p) (hb : Below w.heap.size w w') : PrAt w' v p := by
 obtain ⟨vt, vf, h1, h2, h3⟩ := h
 exact ⟨vt, vf, h1, h2.below hb, h3.below fnStays hb⟩

theorem alloc_below (w : World) (o : Obj) : Below w.heap.size w (w.alloc o) := (Below.refl _ _).alloc (Nat.le_refl _) _
theorem keep_below {w w' : World} {a : Addr} {v : Value} (hb : Below w.heap.size w w') (h : w.cell? a = some v) : w'.cell? a = some v := (hb.cell (World.block_lt_of_cell? w a h)).trans h
/-- a number, and old memory stays -/
def NumR (n : Int) (w : World) (e : Ending) (w' : World) : Prop := e = .returned (.int .i64 n) ∧ Below w.heap.size w w'

/-! how great programs are -/
def manyB (l : List Bx) : Nat := (l.map fun b => b.ins.length).sum
structure Small (p : Px) : Prop where
 types : p.types.length ≤ 20000
 parts : ∀ x ∈ p.types, x.parts.length ≤ 20000
 funcs : p.funcs.length ≤ 20000
 blocks : ∀ f ∈ p.funcs, f.blocks.length ≤ 20000
 many : ∀ f ∈ p.funcs, manyB f.blocks ≤ 20000
 args : ∀ f ∈ p.funcs, ∀ b ∈ f.blocks, ∀ x ∈ b.ins, x.args.length ≤ 20000 ∧ x.frm.length ≤ 20000
theorem manyB_nil : manyB [] = 0 := rfl
theorem manyB_cons (b : Bx) (l : List Bx) : manyB (b :: l) = b.ins.length + manyB l := by simp [manyB]
theorem manyB_append (a b : List Bx) : manyB (a ++ b) = manyB a + manyB b := by simp [manyB]
theorem manyB_take {l : List Bx} {k : Nat} (h : k < l.length) : manyB (l.take (k + 1)) = manyB (l.take k) + l[k].ins.length := by
 rw [List.take_succ_eq_append_getElem h, manyB_append, manyB_cons, manyB_nil, Nat.add_zero]
theorem manyB_le (l : List Bx) (k : Nat) : manyB (l.take k) ≤ manyB l := by
 conv => rhs; rw [← List.take_append_drop k l, manyB_append]
 omega
theorem manyB_mem {l : List Bx} {k : Nat} (h : k < l.length) : l[k].ins.length ≤ manyB l := by
 have h1 := manyB_take h
 have h2 := manyB_le l (k + 1)
 omega
end Go.Proofs.YtpejpnffcepdlaaGreatDoor.ShP
namespace Go.Proofs.YtpejpnffcepdlaaGreatDoor.TyRE
open Go.RowKit Go.Lib Go.Shelf SetP IntO TyM TyP TyB TyQ


/-- is a table more than statements go through? -/
def greatB (t : List Ty) : Bool := (t.take 30).any (fun x => decide (20 < x.parts.length)) || decide (20 < t.length)
theorem great_no {t : List Ty} (h : greatB t = false) : t.length ≤ 20 ∧ ∀ x ∈ t, x.parts.length ≤ 20 := by
 unfold greatB at h
 simp only [Bool.or_eq_false_iff, decide_eq_false_iff_not] at h
 obtain ⟨h1, h2⟩ := h
 refine ⟨by omega, fun x hx => ?_⟩
 rw [List.take_of_length_le (by omega)] at h1
 have := List.any_eq_false.1 h1 x hx
 simp only [decide_eq_true_eq] at this
 omega

set_option maxHeartbeats 1000000 in
theorem great_calls (v : Value) (t : List Ty) (w : World) (ht : TysAt w v t) : Calls Tryz.prog 30 #[v] w (BoolR (greatB t) w) := by
 have HT := hid ht
 obtain ⟨ao, cap, rfl⟩ := ht.slice
 have hll : t.length ≤ 9223372036854775807 := by obtain ⟨_, _, _, h, _⟩ := ht; exact h
 clear ht
 have HD : Hid (greatB t = ((t.take 30).any (fun x => decide (20 < x.parts.length)) || decide (20 < t.length))) := rfl
 have HS : Hid (∀ k (hk : k < t.length), ((t.take k).any fun x => decide (20 < x.parts.length)) = false → ¬ 20 < t[k].parts.length → ((t.take (k + 1)).any fun x => decide (20 < x.parts.length)) = false) := fun k hk h h2 => by
  rw [List.take_succ_eq_append_getElem hk, List.any_append, h]
  simp; omega
 have HY : Hid (∀ k (hk : k < t.length), k < 30 → 20 < t[k].parts.length → ((t.take 30).any fun x => decide (20 < x.parts.length)) = true) := fun k hk h30 h => by
  refine List.any_eq_true.2 ⟨t[k], ?_, by simpa using h⟩
  have : (t.take 30)[k]'(by rw [List.length_take]; omega) = t[k] := List.getElem_take
  rw [← this]
  exact List.getElem_mem _
 go_enter Tryz.func30, Tryz.ntmps30
 go_wp2
 go_loop [3] (fun i => ∃ k : Nat, k ≤ t.length ∧ k ≤ 30 ∧ i = .int .i64 k ∧ ((t.take k).any fun x => decide (20 < x.parts.length)) = false) (fun i => 30 - (intOf i).toNat)
 case atStart => exact ⟨0, by omega, by omega, rfl, rfl⟩
 case round =>
  obtain ⟨k, hk, hk30, rfl, hno⟩ := hrel
  have HN := hid hno
  clear hno
  by_cases hlt : k < t.length
  ·by_cases h30 : k < 30
   ·obtain ⟨tb, off, rfl, _, pv, c0, c1, c2, c3, hp⟩ := HT.out.at k hlt
    have HS2 := hid (HS.out k hlt HN.out)
    have HY2 := hid (HY.out k hlt h30)
    obtain ⟨pa, pc, rfl, hpl⟩ := ints_slice hp
    clear hp
    generalize t[k] = x at *
    generalize x.parts.length = pn at *
    have hi : (k : Int) < 30 := by omega
    by_cases hbig : 20 < pn
    ·have hb : (20 : Int) < pn := by omega
     have HE := hid (HY2.out hbig)
     clear hbig
     go_wp2
     all_goals (try (exfalso; omega))
     go_ret
     exact ⟨by rw [HD.out, HE.out]; rfl, Below.refl _ _⟩
    ·have hb : ¬ (20 : Int) < pn := by omega
     have HE := hid (HS2.out hbig)
     clear hbig
     go_wp2
     all_goals (try (exfalso; omega))
     go_round
     case rel => exact ⟨k + 1, by omega, by omega, by go_num, HE.out⟩
     case measure => simp [intOf]; omega
   ·have hge : (30 : Int) ≤ k := by omega
    have hi : ¬ (k : Int) < 30 := by omega
    have hbig : (20 : Int) < t.length := by omega
    have HB : Hid (greatB t = true) := by
     show _ = _
     rw [HD.out]
     simp; right; omega
    go_wp2
    all_goals (try (exfalso; omega))
    go_ret
    exact ⟨by rw [HB.out]; rfl, Below.refl _ _⟩
  ·obtain rfl : k = t.length := by omega
   have HB : Hid (greatB t = decide ((20 : Int) < t.length)) := by
    show _ = _
    rw [HD.out]
    have := HN.out
    rw [List.take_length] at this
    rw [List.take_of_length_le hk30, this, Bool.false_or]
    simp
    first | rfl | (constructor <;> intro h <;> omega)
   clear HS HY HD HN HT
   generalize t.length = n at *
   go_wp2
   all_goals (try (exfalso; omega))
   all_goals
    go_ret
    refine ⟨?_, Below.refl _ _⟩
    rw [HB.out]
    first | rfl | (congr 2; simp; omega)
end Go.Proofs.YtpejpnffcepdlaaGreatDoor.TyRE
namespace Go.Proofs.YtpejpnffcepdlaaGreatDoor.TyRE
open Go.RowKit Go.Lib Go.Shelf SetP IntO TyM TyP TyB TyQ

end Go.Proofs.YtpejpnffcepdlaaGreatDoor.TyRE
namespace Go.Proofs.YtpejpnffcepdlaaGreatDoor.TyRE
open Go.RowKit Go.Lib Go.Shelf SetP IntO TyM TyP TyB TyQ

end Go.Proofs.YtpejpnffcepdlaaGreatDoor.TyRE
namespace Go.Proofs.YtpejpnffcepdlaaGreatDoor.TyT
open Go.RowKit Go.Lib SetP IntO TyM TyP TyB

/-- a list, copied -/
def CloneI (l : List Int) (w : World) (e : Ending) (w' : World) : Prop := ∃ u m, e = .returned u ∧ w'.ownsRow w.heap.size 3 1 u m (intVals l) ∧ Below w.heap.size w w'

set_option maxHeartbeats 400000 in
theorem cloneInts_calls (v : Value) (l : List Int) (w : World) (hl : IntsAt w v l) (hlen : l.length ≤ 100000) : Calls Tryz.prog 63 #[v] w (CloneI l w) := by
 have HL := hid hl
 have hz : ∀ ao n c, v = .slice ao n c → ao = none → l = [] := by
  rintro ao n c rfl rfl
  obtain ⟨ao', cap', hv, _, hm, _⟩ := hl
  cases hv
  cases l with
  | nil => rfl
  | cons x l => obtain ⟨_, _, h, _⟩ := hm (by simp); cases h
 obtain ⟨ao, cap, rfl, hll⟩ := ints_slice hl
 have HZ := hid (hz ao _ _ rfl)
 have hcap0 : ao = none → cap = 0 := by
  intro h
  obtain ⟨ao', cap', hv, _, _, hz, _⟩ := hl
  cases hv
  exact hz h
 clear hl hz
 cases ao with
 | none =>
  obtain rfl := HZ.out rfl
  obtain rfl := hcap0 rfl
  clear hcap0 HZ
  have hnil := fun (w : World) (a : Option Addr) (n c : Nat) => Lib.run_eql_slice_nil (P := Tryz.prog) w 29 3 a n c 0 0 Tryz.underlying29
  go_enter Tryz.func63, Tryz.ntmps63
  go_wp2
  go_ret
  exact ⟨_, 0, rfl, World.ownsRow_nil _ _ _ _, Below.refl _ _⟩
 | some ad =>
  clear hcap0 HZ
  have hb0 : Below w.heap.size w (w.alloc (.cells #[] 3)) := (Below.refl _ _).alloc (Nat.le_refl _) _
  have HL2 := hid (HL.out.below hb0)
  have HOWN := hid (World.ownsRow_made (base := w.heap.size) (e := 3) (size := 1) w #[] 0 (Nat.le_refl _) (by decide) (by simp))
  have hsz : w.heap.size ≤ (w.alloc (.cells #[] 3)).heap.size := by simp
  have hnil := fun (w : World) (a : Option Addr) (n c : Nat) => Lib.run_eql_slice_nil (P := Tryz.prog) w 29 3 a n c 0 0 Tryz.underlying29
  go_enter Tryz.func63, Tryz.ntmps63
  go_wp2_with (at_builtin; refine wpList_clone_ints rfl _ _ rfl w.heap.size (.slice (some ⟨w.heap.size, 0, none⟩) 0 0) rfl HOWN.out (.slice (some ad) l.length cap) l rfl HL2.out hlen hsz ?_)
  intro v' m w' hown' hb'
  go_wp2
  go_ret
  exact ⟨v', m, rfl, hown', hb0.trans hb'⟩
end Go.Proofs.YtpejpnffcepdlaaGreatDoor.TyT
