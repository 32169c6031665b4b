/- Walks over types.scalar, types.below, types.scalars, and what they call of package slices. -/
import Derived.Test.YtaegidmodenomaaDoorTyP
import Derived.Shelf.Abstract
import Derived.Deep.LoopGhost
import Derived.BigGuardPart
namespace Go.Proofs.YtaegidmodenomaaDoor.TyB
open Go.RowKit Go.Lib SetP IntO TyM TyP

/-- a bool, and old memory stays -/
def BoolR (b : Bool) (w : World) (e : Ending) (w' : World) : Prop := e = .returned (.bool b) ∧ Below w.heap.size w w'

set_option maxHeartbeats 400000 in
theorem scalar_calls (x : Ty) (pv : Value) (w : World) : Calls Tryd.prog 91 #[tyV x pv] w (BoolR (scalarK x.kind) w) := by
  have HD : Hid (scalarK x.kind = decide (x.kind = 1 ∨ x.kind = 2 ∨ x.kind = 3)) := rfl
  by_cases h1 : x.kind = 1
  · rw [show scalarK x.kind = true by rw [HD.out]; simp [h1]]
    obtain ⟨k, e, m, p⟩ := x
    simp only at h1
    subst h1
    go_enter Tryd.func91, Tryd.ntmps91
    go_wp2
    go_ret
    exact ⟨rfl, (Below.refl _ _).alloc (Nat.le_refl _) _⟩
  by_cases h2 : x.kind = 2
  · rw [show scalarK x.kind = true by rw [HD.out]; simp [h2]]
    obtain ⟨k, e, m, p⟩ := x
    simp only at h2
    subst h2
    go_enter Tryd.func91, Tryd.ntmps91
    go_wp2
    go_ret
    exact ⟨rfl, (Below.refl _ _).alloc (Nat.le_refl _) _⟩
  by_cases h3 : x.kind = 3
  · rw [show scalarK x.kind = true by rw [HD.out]; simp [h3]]
    obtain ⟨k, e, m, p⟩ := x
    simp only at h3
    subst h3
    go_enter Tryd.func91, Tryd.ntmps91
    go_wp2
    go_ret
    exact ⟨rfl, (Below.refl _ _).alloc (Nat.le_refl _) _⟩
  · rw [show scalarK x.kind = false by rw [HD.out]; simp [h1, h2, h3]]
    obtain ⟨k, e, m, p⟩ := x
    simp only at h1 h2 h3
    have e1 : (k == 1) = false := by simpa using h1
    have e2 : (k == 2) = false := by simpa using h2
    have e3 : (k == 3) = false := by simpa using h3
    clear HD
    go_enter Tryd.func91, Tryd.ntmps91
    go_wp2
    go_ret
    exact ⟨rfl, (Below.refl _ _).alloc (Nat.le_refl _) _⟩

/-- an index, or -1 -/
def IdxR (p : Int → Bool) (l : List Int) (w : World) (e : Ending) (w' : World) : Prop := ∃ i : Int, e = .returned (.int .i64 i) ∧ decide (0 ≤ i) = l.any p ∧ -1 ≤ i ∧ Below w.heap.size w w'

theorem any_split {p : Int → Bool} {l : List Int} {k : Nat} (hk : k < l.length) (hp : p l[k] = true) : l.any p = true :=
  List.any_eq_true.2 ⟨l[k], List.getElem_mem hk, hp⟩
theorem none_succ {p : Int → Bool} {l : List Int} {k : Nat} (hk : k < l.length) (h : (l.take k).any p = false) (hp : p l[k] = false) : (l.take (k + 1)).any p = false := by
  rw [List.take_succ_eq_append_getElem hk, List.any_append, h]
  simp [hp]

set_option maxHeartbeats 1000000 in
theorem index_calls (g : FuncId) (he : Enters Tryd.prog g) (cb : Nat) (p : Int → Bool) (v : Value) (l : List Int) (w : World) (hl : IntsAt w v l)
    (hg : ∀ x ∈ l, ∀ wx, Below w.heap.size w wx → Calls Tryd.prog g #[.int .i64 x, .pointer (some ⟨cb, 0, none⟩)] wx (BoolR (p x) wx)) :
    Calls Tryd.prog 88 #[v, .func (.func g) #[] #[.pointer (some ⟨cb, 0, none⟩)]] w (IdxR p l w) := by
  have he' : ∀ args w, (callFunc g args).run Tryd.prog w = .ok (.enter g args) w := he
  have HG := hid hg
  have HL := hid hl
  obtain ⟨ao, cap, rfl, hlen⟩ := ints_slice hl
  clear hg hl
  go_enter Tryd.func88, Tryd.ntmps88
  go_wp2
  go_loopg [8] l.length (fun gk i wr => ∃ k : Nat, k + gk = l.length ∧ i = .int .i64 k ∧ Below w.heap.size w wr ∧ (l.take k).any p = false)
  case atStart => exact ⟨0, by omega, rfl, Below.refl _ _, rfl⟩
  case round =>
    obtain ⟨k, hk, rfl, hbe, hno⟩ := hrel
    have HK := hid hk
    have HNO := hid hno
    clear hno
    by_cases hlt : k < l.length
    · obtain ⟨b, off, rfl, hbs, hc⟩ := ints_at (HL.out.below hbe) k hlt
      have HC := hid (HG.out _ (List.getElem_mem hlt) wr hbe)
      have HS := hid (none_succ (p := p) hlt HNO.out)
      have HY := hid (any_split (p := p) hlt)
      clear hk
      generalize l[k] = n at *
      cases hp : p n with
      | true =>
        rw [hp] at HC
        have HP := hid hp
        clear hp
        go_wp2_with fail
        refine HC.out.mono ?_
        rintro e w1 ⟨rfl, hb1⟩
        have hbe1 := hbe.trans (hb1.mono hbe.size)
        clear hbe hb1 hc
        go_wp2
        go_ret
        exact ⟨k, rfl, by rw [HY.out HP.out]; simp, by omega, hbe1⟩
      | false =>
        rw [hp] at HC
        have HP := hid hp
        clear hp
        go_wp2_with fail
        refine HC.out.mono ?_
        rintro e w1 ⟨rfl, hb1⟩
        have hbe1 := hbe.trans (hb1.mono hbe.size)
        clear hbe hb1 hc
        go_wp2
        go_roundg (gk - 1)
        case measure => have := HK.out; omega
        case rel => exact ⟨k + 1, by have := HK.out; omega, by go_num, hbe1, HS.out HP.out⟩
    · obtain rfl : k = l.length := by omega
      clear hk
      go_wp2
      go_ret
      exact ⟨-1, rfl, by have := HNO.out; rw [List.take_length] at this; rw [this]; rfl, by omega, hbe⟩

theorem contains_calls (g : FuncId) (he : Enters Tryd.prog g) (cb : Nat) (p : Int → Bool) (v : Value) (l : List Int) (w : World) (hl : IntsAt w v l)
    (hg : ∀ x ∈ l, ∀ wx, Below w.heap.size w wx → Calls Tryd.prog g #[.int .i64 x, .pointer (some ⟨cb, 0, none⟩)] wx (BoolR (p x) wx)) :
    Calls Tryd.prog 63 #[v, .func (.func g) #[] #[.pointer (some ⟨cb, 0, none⟩)]] w (BoolR (l.any p) w) := by
  have HC := hid (index_calls g he cb p v l w hl hg)
  clear hg hl he
  go_enter Tryd.func63, Tryd.ntmps63
  go_wp2_with fail
  refine HC.out.mono ?_
  rintro e w1 ⟨i, rfl, hi, hm, hb1⟩
  have HI := hid hi
  clear hi
  go_wp2
  all_goals
    go_ret
    refine ⟨?_, hb1⟩
    rw [← HI.out]
    first | rfl | (congr 2; simp; omega)
end Go.Proofs.YtaegidmodenomaaDoor.TyB
