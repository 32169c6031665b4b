/- Walks over slices.IndexFunc and slices.ContainsFunc at instructions and blocks. -/
import Derived.Test.YtaegidmodenomaaDoorShB
namespace Go.Proofs.YtaegidmodenomaaDoor.ShC
open Go.RowKit Go.Lib SetP IntO TyM TyP TyB ShM ShP ShA ShB

/-- an index, or -1 -/
def IdxG {α : Type} (p : α → Bool) (l : List α) (w : World) (e : Ending) (w' : World) : Prop := ∃ i : Int, e = .returned (.int .i64 i) ∧ decide (0 ≤ i) = l.any p ∧ -1 ≤ i ∧ Below w.heap.size w w'
theorem anyG_split {α : Type} {p : α → Bool} {l : List α} {k : Nat} (hk : k < l.length) (hp : p l[k] = true) : l.any p = true :=
  List.any_eq_true.2 ⟨l[k], List.getElem_mem hk, hp⟩
theorem noneG_succ {α : Type} {p : α → Bool} {l : List α} {k : Nat} (hk : k < l.length) (h : (l.take k).any p = false) (hp : p l[k] = false) : (l.take (k + 1)).any p = false := by
  rw [List.take_succ_eq_append_getElem hk, List.any_append, h]
  simp [hp]

set_option maxRecDepth 100000 in
set_option maxHeartbeats 2000000 in
theorem indexI_calls (g : FuncId) (he : Enters Tryd.prog g) (cb : Nat) (p : Ix → Bool) (v : Value) (l : List Ix) (w : World) (hl : InsAt w v l)
    (hg : ∀ x ∈ l, ∀ va vf wx, Below w.heap.size w wx → IntsAt wx va x.args → IntsAt wx vf x.frm → Calls Tryd.prog g #[ixV x va vf, .pointer (some ⟨cb, 0, none⟩)] wx (BoolR (p x) wx)) :
    Calls Tryd.prog 95 #[v, .func (.func g) #[] #[.pointer (some ⟨cb, 0, none⟩)]] w (IdxG p l w) := by
  have he' : ∀ args w, (callFunc g args).run Tryd.prog w = .ok (.enter g args) w := he
  have HG := hid hg
  have HL := hid hl
  obtain ⟨ao, cap, rfl, hlen⟩ := hl.slice
  clear hg hl
  go_enter Tryd.func95, Tryd.ntmps95
  go_wp2
  go_loopg [8] l.length (fun gk i wr => ∃ k : Nat, k + gk = l.length ∧ i = .int .i64 k ∧ Below w.heap.size w wr ∧ (l.take k).any p = false)
  case atStart => exact ⟨0, by omega, rfl, Below.refl _ _, rfl⟩
  case round =>
    obtain ⟨k, hk, rfl, hbe, hno⟩ := hrel
    have HK := hid hk
    have HNO := hid hno
    clear hno
    by_cases hlt : k < l.length
    · obtain ⟨b, off, rfl, hbs, va, vf, c0, c1, c2, c3, c4, c5, c6, ha, hf⟩ := (HL.out.below insStays hbe).at k hlt
      have HC := hid (HG.out _ (List.getElem_mem hlt) va vf wr hbe ha hf)
      have HS := hid (noneG_succ (p := p) hlt HNO.out)
      have HY := hid (anyG_split (p := p) hlt)
      clear hk ha hf
      generalize l[k] = n at *
      skip
      cases hp : p n with
      | true =>
        rw [hp] at HC
        have HP := hid hp
        clear hp
        go_wp2_with fail
        refine HC.out.mono ?_
        rintro e w1 ⟨rfl, hb1⟩
        have hbe1 := hbe.trans (hb1.mono hbe.size)
        clear hbe hb1 HC
        go_wp2
        go_ret
        exact ⟨k, rfl, by rw [HY.out HP.out]; simp, by omega, hbe1⟩
      | false =>
        rw [hp] at HC
        have HP := hid hp
        clear hp
        go_wp2_with fail
        refine HC.out.mono ?_
        rintro e w1 ⟨rfl, hb1⟩
        have hbe1 := hbe.trans (hb1.mono hbe.size)
        clear hbe hb1 HC
        go_wp2
        go_roundg (gk - 1)
        case measure => have := HK.out; omega
        case rel => exact ⟨k + 1, by have := HK.out; omega, by go_num, hbe1, HS.out HP.out⟩
    · obtain rfl : k = l.length := by omega
      clear hk
      go_wp2
      go_ret
      exact ⟨-1, rfl, by have := HNO.out; rw [List.take_length] at this; rw [this]; rfl, by omega, hbe⟩

theorem containsI_calls (g : FuncId) (he : Enters Tryd.prog g) (cb : Nat) (p : Ix → Bool) (v : Value) (l : List Ix) (w : World) (hl : InsAt w v l)
    (hg : ∀ x ∈ l, ∀ va vf wx, Below w.heap.size w wx → IntsAt wx va x.args → IntsAt wx vf x.frm → Calls Tryd.prog g #[ixV x va vf, .pointer (some ⟨cb, 0, none⟩)] wx (BoolR (p x) wx)) :
    Calls Tryd.prog 70 #[v, .func (.func g) #[] #[.pointer (some ⟨cb, 0, none⟩)]] w (BoolR (l.any p) w) := by
  have HC := hid (indexI_calls g he cb p v l w hl hg)
  clear hg hl he
  go_enter Tryd.func70, Tryd.ntmps70
  go_wp2_with fail
  refine HC.out.mono ?_
  rintro e w1 ⟨i, rfl, hi, hm, hb1⟩
  have HI := hid hi
  clear hi
  go_wp2
  all_goals
    go_ret
    refine ⟨?_, hb1⟩
    rw [← HI.out]
    first | rfl | (congr 2; simp; omega)

set_option maxRecDepth 100000 in
set_option maxHeartbeats 2000000 in
theorem indexB_calls (g : FuncId) (he : Enters Tryd.prog g) (cb : Nat) (p : Bx → Bool) (v : Value) (l : List Bx) (w : World) (hl : BlksAt w v l)
    (hg : ∀ x ∈ l, ∀ vi wx, Below w.heap.size w wx → InsAt wx vi x.ins → Calls Tryd.prog g #[bxV x vi, .pointer (some ⟨cb, 0, none⟩)] wx (BoolR (p x) wx)) :
    Calls Tryd.prog 93 #[v, .func (.func g) #[] #[.pointer (some ⟨cb, 0, none⟩)]] w (IdxG p l w) := by
  have he' : ∀ args w, (callFunc g args).run Tryd.prog w = .ok (.enter g args) w := he
  have HG := hid hg
  have HL := hid hl
  obtain ⟨ao, cap, rfl, hlen⟩ := hl.slice
  clear hg hl
  go_enter Tryd.func93, Tryd.ntmps93
  go_wp2
  go_loopg [8] l.length (fun gk i wr => ∃ k : Nat, k + gk = l.length ∧ i = .int .i64 k ∧ Below w.heap.size w wr ∧ (l.take k).any p = false)
  case atStart => exact ⟨0, by omega, rfl, Below.refl _ _, rfl⟩
  case round =>
    obtain ⟨k, hk, rfl, hbe, hno⟩ := hrel
    have HK := hid hk
    have HNO := hid hno
    clear hno
    by_cases hlt : k < l.length
    · obtain ⟨b, off, rfl, hbs, vi, c0, c1, c2, c3, c4, hi⟩ := (HL.out.below blkStays hbe).at k hlt
      have HC := hid (HG.out _ (List.getElem_mem hlt) vi wr hbe hi)
      have HS := hid (noneG_succ (p := p) hlt HNO.out)
      have HY := hid (anyG_split (p := p) hlt)
      clear hk hi
      generalize l[k] = n at *
      skip
      cases hp : p n with
      | true =>
        rw [hp] at HC
        have HP := hid hp
        clear hp
        go_wp2_with fail
        refine HC.out.mono ?_
        rintro e w1 ⟨rfl, hb1⟩
        have hbe1 := hbe.trans (hb1.mono hbe.size)
        clear hbe hb1 HC
        go_wp2
        go_ret
        exact ⟨k, rfl, by rw [HY.out HP.out]; simp, by omega, hbe1⟩
      | false =>
        rw [hp] at HC
        have HP := hid hp
        clear hp
        go_wp2_with fail
        refine HC.out.mono ?_
        rintro e w1 ⟨rfl, hb1⟩
        have hbe1 := hbe.trans (hb1.mono hbe.size)
        clear hbe hb1 HC
        go_wp2
        go_roundg (gk - 1)
        case measure => have := HK.out; omega
        case rel => exact ⟨k + 1, by have := HK.out; omega, by go_num, hbe1, HS.out HP.out⟩
    · obtain rfl : k = l.length := by omega
      clear hk
      go_wp2
      go_ret
      exact ⟨-1, rfl, by have := HNO.out; rw [List.take_length] at this; rw [this]; rfl, by omega, hbe⟩

theorem containsB_calls (g : FuncId) (he : Enters Tryd.prog g) (cb : Nat) (p : Bx → Bool) (v : Value) (l : List Bx) (w : World) (hl : BlksAt w v l)
    (hg : ∀ x ∈ l, ∀ vi wx, Below w.heap.size w wx → InsAt wx vi x.ins → Calls Tryd.prog g #[bxV x vi, .pointer (some ⟨cb, 0, none⟩)] wx (BoolR (p x) wx)) :
    Calls Tryd.prog 67 #[v, .func (.func g) #[] #[.pointer (some ⟨cb, 0, none⟩)]] w (BoolR (l.any p) w) := by
  have HC := hid (indexB_calls g he cb p v l w hl hg)
  clear hg hl he
  go_enter Tryd.func67, Tryd.ntmps67
  go_wp2_with fail
  refine HC.out.mono ?_
  rintro e w1 ⟨i, rfl, hi, hm, hb1⟩
  have HI := hid hi
  clear hi
  go_wp2
  all_goals
    go_ret
    refine ⟨?_, hb1⟩
    rw [← HI.out]
    first | rfl | (congr 2; simp; omega)
end Go.Proofs.YtaegidmodenomaaDoor.ShC
