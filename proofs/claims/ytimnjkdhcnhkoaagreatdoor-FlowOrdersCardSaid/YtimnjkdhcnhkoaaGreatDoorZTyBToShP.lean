/- Walks over types.scalar, types.below, types.scalars, and what they call of package slices. Walks over types.below and types.scalars. Two lists, the first ones of them alike. Programs as they lie in memory. -/
import Derived.Test.YtimnjkdhcnhkoaaGreatDoorZIntOToAft
import Derived.Shelf.Abstract
import Derived.Deep.LoopGhost
import Derived.BigGuardPart
import Derived.Test.YtimnjkdhcnhkoaaGreatDoorZTyMToShN
namespace Go.Proofs.YtimnjkdhcnhkoaaGreatDoor.TyB
open Go.RowKit Go.Lib SetP IntO TyM TyP

/-- a bool, and old memory stays -/
def BoolR (b : Bool) (w : World) (e : Ending) (w' : World) : Prop := e = .returned (.bool b) ∧ Below w.heap.size w w'

set_option maxHeartbeats 400000 in
theorem scalar_calls (x : Ty) (pv : Value) (w : World) : Calls Tryz.prog 87 #[tyV x pv] w (BoolR (scalarK x.kind) w) := by
  have HD : Hid (scalarK x.kind = decide (x.kind = 1 ∨ x.kind = 2 ∨ x.kind = 3)) := rfl
  by_cases h1 : x.kind = 1
  · rw [show scalarK x.kind = true by rw [HD.out]; simp [h1]]
    obtain ⟨k, e, m, p⟩ := x
    simp only at h1
    subst h1
    go_enter Tryz.func87, Tryz.ntmps87
    go_wp2
    go_ret
    exact ⟨rfl, (Below.refl _ _).alloc (Nat.le_refl _) _⟩
  by_cases h2 : x.kind = 2
  · rw [show scalarK x.kind = true by rw [HD.out]; simp [h2]]
    obtain ⟨k, e, m, p⟩ := x
    simp only at h2
    subst h2
    go_enter Tryz.func87, Tryz.ntmps87
    go_wp2
    go_ret
    exact ⟨rfl, (Below.refl _ _).alloc (Nat.le_refl _) _⟩
  by_cases h3 : x.kind = 3
  · rw [show scalarK x.kind = true by rw [HD.out]; simp [h3]]
    obtain ⟨k, e, m, p⟩ := x
    simp only at h3
    subst h3
    go_enter Tryz.func87, Tryz.ntmps87
    go_wp2
    go_ret
    exact ⟨rfl, (Below.refl _ _).alloc (Nat.le_refl _) _⟩
  · rw [show scalarK x.kind = false by rw [HD.out]; simp [h1, h2, h3]]
    obtain ⟨k, e, m, p⟩ := x
    simp only at h1 h2 h3
    have e1 : (k == 1) = false := by simpa using h1
    have e2 : (k == 2) = false := by simpa using h2
    have e3 : (k == 3) = false := by simpa using h3
    clear HD
    go_enter Tryz.func87, Tryz.ntmps87
    go_wp2
    go_ret
    exact ⟨rfl, (Below.refl _ _).alloc (Nat.le_refl _) _⟩

/-- an index, or -1 -/
def IdxR (p : Int → Bool) (l : List Int) (w : World) (e : Ending) (w' : World) : Prop := ∃ i : Int, e = .returned (.int .i64 i) ∧ decide (0 ≤ i) = l.any p ∧ -1 ≤ i ∧ Below w.heap.size w w'

theorem any_split {p : Int → Bool} {l : List Int} {k : Nat} (hk : k < l.length) (hp : p l[k] = true) : l.any p = true :=
  List.any_eq_true.2 ⟨l[k], List.getElem_mem hk, hp⟩
theorem none_succ {p : Int → Bool} {l : List Int} {k : Nat} (hk : k < l.length) (h : (l.take k).any p = false) (hp : p l[k] = false) : (l.take (k + 1)).any p = false := by
  rw [List.take_succ_eq_append_getElem hk, List.any_append, h]
  simp [hp]

set_option maxHeartbeats 1000000 in
theorem index_calls (g : FuncId) (he : Enters Tryz.prog g) (cb : Nat) (p : Int → Bool) (v : Value) (l : List Int) (w : World) (hl : IntsAt w v l)
    (hg : ∀ x ∈ l, ∀ wx, Below w.heap.size w wx → Calls Tryz.prog g #[.int .i64 x, .pointer (some ⟨cb, 0, none⟩)] wx (BoolR (p x) wx)) :
    Calls Tryz.prog 80 #[v, .func (.func g) #[] #[.pointer (some ⟨cb, 0, none⟩)]] w (IdxR p l w) := by
  have he' : ∀ args w, (callFunc g args).run Tryz.prog w = .ok (.enter g args) w := he
  have HG := hid hg
  have HL := hid hl
  obtain ⟨ao, cap, rfl, hlen⟩ := ints_slice hl
  clear hg hl
  go_enter Tryz.func80, Tryz.ntmps80
  go_wp2
  go_loopg [8] l.length (fun gk i wr => ∃ k : Nat, k + gk = l.length ∧ i = .int .i64 k ∧ Below w.heap.size w wr ∧ (l.take k).any p = false)
  case atStart => exact ⟨0, by omega, rfl, Below.refl _ _, rfl⟩
  case round =>
    obtain ⟨k, hk, rfl, hbe, hno⟩ := hrel
    have HK := hid hk
    have HNO := hid hno
    clear hno
    by_cases hlt : k < l.length
    · obtain ⟨b, off, rfl, hbs, hc⟩ := ints_at (HL.out.below hbe) k hlt
      have HC := hid (HG.out _ (List.getElem_mem hlt) wr hbe)
      have HS := hid (none_succ (p := p) hlt HNO.out)
      have HY := hid (any_split (p := p) hlt)
      clear hk
      generalize l[k] = n at *
      cases hp : p n with
      | true =>
        rw [hp] at HC
        have HP := hid hp
        clear hp
        go_wp2_with fail
        refine HC.out.mono ?_
        rintro e w1 ⟨rfl, hb1⟩
        have hbe1 := hbe.trans (hb1.mono hbe.size)
        clear hbe hb1 hc
        go_wp2
        go_ret
        exact ⟨k, rfl, by rw [HY.out HP.out]; simp, by omega, hbe1⟩
      | false =>
        rw [hp] at HC
        have HP := hid hp
        clear hp
        go_wp2_with fail
        refine HC.out.mono ?_
        rintro e w1 ⟨rfl, hb1⟩
        have hbe1 := hbe.trans (hb1.mono hbe.size)
        clear hbe hb1 hc
        go_wp2
        go_roundg (gk - 1)
        case measure => have := HK.out; omega
        case rel => exact ⟨k + 1, by have := HK.out; omega, by go_num, hbe1, HS.out HP.out⟩
    · obtain rfl : k = l.length := by omega
      clear hk
      go_wp2
      go_ret
      exact ⟨-1, rfl, by have := HNO.out; rw [List.take_length] at this; rw [this]; rfl, by omega, hbe⟩

theorem contains_calls (g : FuncId) (he : Enters Tryz.prog g) (cb : Nat) (p : Int → Bool) (v : Value) (l : List Int) (w : World) (hl : IntsAt w v l)
    (hg : ∀ x ∈ l, ∀ wx, Below w.heap.size w wx → Calls Tryz.prog g #[.int .i64 x, .pointer (some ⟨cb, 0, none⟩)] wx (BoolR (p x) wx)) :
    Calls Tryz.prog 67 #[v, .func (.func g) #[] #[.pointer (some ⟨cb, 0, none⟩)]] w (BoolR (l.any p) w) := by
  have HC := hid (index_calls g he cb p v l w hl hg)
  clear hg hl he
  go_enter Tryz.func67, Tryz.ntmps67
  go_wp2_with fail
  refine HC.out.mono ?_
  rintro e w1 ⟨i, rfl, hi, hm, hb1⟩
  have HI := hid hi
  clear hi
  go_wp2
  all_goals
    go_ret
    refine ⟨?_, hb1⟩
    rw [← HI.out]
    first | rfl | (congr 2; simp; omega)
end Go.Proofs.YtimnjkdhcnhkoaaGreatDoor.TyB
namespace Go.Proofs.YtimnjkdhcnhkoaaGreatDoor.TyC
open Go.RowKit Go.Lib SetP IntO TyM TyP TyB

theorem below1_calls (x m : Int) (b : Nat) (w : World) (hc : w.cell? ⟨b, 0, none⟩ = some (.int .i64 m)) :
    Calls Tryz.prog 104 #[.int .i64 x, .pointer (some ⟨b, 0, none⟩)] w (BoolR (!decide (0 ≤ x ∧ x < m)) w) := by
  by_cases h0 : x < 0
  · have hd : decide (0 ≤ x ∧ x < m) = false := by simp; omega
    rw [hd]
    go_enter Tryz.func104, Tryz.ntmps104
    go_wp2
    go_ret
    exact ⟨rfl, Below.refl _ _⟩
  · by_cases h1 : m ≤ x
    · have hd : decide (0 ≤ x ∧ x < m) = false := by simp; omega
      rw [hd]
      go_enter Tryz.func104, Tryz.ntmps104
      go_wp2
      go_ret
      exact ⟨rfl, Below.refl _ _⟩
    · have hd : decide (0 ≤ x ∧ x < m) = true := by simp; omega
      rw [hd]
      go_enter Tryz.func104, Tryz.ntmps104
      go_wp2
      go_ret
      exact ⟨rfl, Below.refl _ _⟩

theorem low_not (m : Int) (l : List Int) : (!l.any fun x => !decide (0 ≤ x ∧ x < m)) = lowB m l := by
  unfold lowB
  simp [List.any_eq_not_all_not]

theorem below_calls (m : Int) (v : Value) (l : List Int) (w : World) (hl : IntsAt w v l) :
    Calls Tryz.prog 85 #[.int .i64 m, v] w (BoolR (lowB m l) w) := by
  have hb0 : Below w.heap.size w (w.alloc (.cells #[.int .i64 m] 3)) := (Below.refl _ _).alloc (Nat.le_refl _) _
  have HC := hid (contains_calls 104 (enters_of Tryz.func104 (by kernel_rfl) rfl) w.heap.size (fun x => !decide (0 ≤ x ∧ x < m)) v l _ (hl.below hb0)
    (fun x _ wx hbx => below1_calls x m w.heap.size wx ((hbx.cell (p := ⟨w.heap.size, 0, none⟩) (by simp)).trans (by simp))))
  rw [← low_not]
  generalize l.any (fun x => !decide (0 ≤ x ∧ x < m)) = b at *
  clear hl
  cases b <;>
  · go_enter Tryz.func85, Tryz.ntmps85
    go_wp2_with fail
    refine HC.out.mono ?_
    rintro e w1 ⟨rfl, hb1⟩
    have hbe := hb0.trans (hb1.mono hb0.size)
    clear hb1
    go_wp2
    go_ret
    exact ⟨rfl, hbe⟩

/-- a type's value, in a table -/
theorem scalars1_calls (t : List Ty) (v : Value) (x : Int) (b : Nat) (w : World) (hc : w.cell? ⟨b, 0, none⟩ = some v) (ht : TysAt w v t) (h0 : 0 ≤ x) (h1 : x < t.length) :
    Calls Tryz.prog 105 #[.int .i64 x, .pointer (some ⟨b, 0, none⟩)] w (BoolR (!plainB t x) w) := by
  obtain ⟨k, rfl⟩ : ∃ k : Nat, x = k := ⟨x.toNat, by omega⟩
  have hk : k < t.length := by omega
  rw [plainB_at (List.getElem?_eq_getElem hk)]
  obtain ⟨ao, cap, rfl⟩ := ht.slice
  obtain ⟨tb, off, rfl, hlt, pv, c0, c1, c2, c3, hp⟩ := ht.at k hk
  have HC := hid (scalar_calls t[k] pv w)
  clear ht hp h1
  generalize t[k] = y at *
  generalize t.length = n at *
  cases hs : scalarK y.kind <;>
  · rw [hs] at HC
    clear hs
    go_enter Tryz.func105, Tryz.ntmps105
    go_wp2_with fail
    refine HC.out.mono ?_
    rintro e w1 ⟨rfl, hb1⟩
    go_wp2
    go_ret
    exact ⟨rfl, hb1⟩

theorem plains_not (t : List Ty) (l : List Int) : (!l.any fun x => !plainB t x) = plainsB t l := by
  unfold plainsB
  simp [List.any_eq_not_all_not]

set_option maxHeartbeats 400000 in
theorem scalars_calls (t : List Ty) (v va : Value) (l : List Int) (w : World) (ht : TysAt w v t) (hl : IntsAt w va l) :
    Calls Tryz.prog 86 #[v, va] w (BoolR (plainsB t l) w) := by
  have hb0 : Below w.heap.size w (w.alloc (.cells #[v] 22)) := (Below.refl _ _).alloc (Nat.le_refl _) _
  have HB := hid (below_calls t.length va l _ (hl.below hb0))
  obtain ⟨ao, cap, rfl⟩ := ht.slice
  have HT := hid ht
  have HL := hid hl
  cases hlow : lowB t.length l with
  | false =>
    rw [hlow] at HB
    have hpl : plainsB t l = false := by
      cases hp : plainsB t l with
      | false => rfl
      | true => rw [plainsB_low hp] at hlow; cases hlow
    rw [hpl]
    clear hlow hpl ht hl
    generalize t.length = n at *
    go_enter Tryz.func86, Tryz.ntmps86
    go_wp2_with fail
    refine HB.out.mono ?_
    rintro e w1 ⟨rfl, hb1⟩
    have hbe := hb0.trans (hb1.mono hb0.size)
    clear hb1
    go_wp2
    go_ret
    exact ⟨rfl, hbe⟩
  | true =>
    rw [hlow] at HB
    have HIN := hid (lowB_iff.1 hlow)
    have HC := hid (fun w1 (hb1 : Below (w.alloc (.cells #[Value.slice ao t.length cap] 22)).heap.size (w.alloc (.cells #[Value.slice ao t.length cap] 22)) w1) =>
      contains_calls 105 (enters_of Tryz.func105 (by kernel_rfl) rfl) w.heap.size (fun x => !plainB t x) va l w1 ((HL.out.below hb0).below hb1)
        (fun x hx wx hbx => scalars1_calls t (.slice ao t.length cap) x w.heap.size wx
          ((hbx.cell (p := ⟨w.heap.size, 0, none⟩) (Nat.lt_of_lt_of_le (by simp) hb1.size)).trans ((hb1.cell (p := ⟨w.heap.size, 0, none⟩) (by simp)).trans (by simp)))
          (((HT.out.below hb0).below hb1).below hbx) (HIN.out x hx).1 (HIN.out x hx).2))
    rw [← plains_not]
    clear hlow ht hl HIN
    generalize l.any (fun x => !plainB t x) = b at *
    clear HT
    generalize t.length = n at *
    cases b <;>
    · go_enter Tryz.func86, Tryz.ntmps86
      go_wp2_with fail
      refine HB.out.mono ?_
      rintro e w1 ⟨rfl, hb1⟩
      have HC1 := hid (HC.out w1 hb1)
      have hbe := hb0.trans (hb1.mono hb0.size)
      clear hb1
      go_wp2_with fail
      refine HC1.out.mono ?_
      rintro e w2 ⟨rfl, hb2⟩
      have hbe2 := hbe.trans (hb2.mono hbe.size)
      clear hb2 hbe
      go_wp2
      go_ret
      exact ⟨rfl, hbe2⟩
end Go.Proofs.YtimnjkdhcnhkoaaGreatDoor.TyC
namespace Go.Proofs.YtimnjkdhcnhkoaaGreatDoor.TyQ
open Go.RowKit Go.Lib Go.Shelf SetP IntO TyM TyP TyB

theorem below_drewN {B : Nat} {w w1 : World} (h : Below B w w1) : ∀ n, Below B w (w1.drewN n)
  | 0 => h
  | n + 1 => (below_drewN h n).drew

/-- a list's first ones are another's -/
def Pre {α : Type} (a b : List α) (k : Nat) : Prop := a.take k = b.take k
theorem pre_succ {α : Type} {a b : List α} {k : Nat} (ha : k < a.length) (hb : k < b.length) (h : Pre a b k) (he : a[k] = b[k]) : Pre a b (k + 1) := by
  unfold Pre at *
  rw [List.take_succ_eq_append_getElem ha, List.take_succ_eq_append_getElem hb, h, he]
theorem pre_all {α : Type} {a b : List α} (hl : a.length = b.length) (h : Pre a b a.length) : a = b := by
  unfold Pre at h
  rwa [List.take_length, hl, List.take_length] at h
theorem ne_at {α : Type} {a b : List α} {k : Nat} (ha : k < a.length) (hb : k < b.length) (h : a[k] ≠ b[k]) : a ≠ b := by
  intro e; subst e; exact h rfl

end Go.Proofs.YtimnjkdhcnhkoaaGreatDoor.TyQ
namespace Go.Proofs.YtimnjkdhcnhkoaaGreatDoor.ShP
open Go.RowKit Go.Lib SetP IntO TyM TyP ShM TyB

/-- a slice that lies in memory: its value, and its elements, of so many cells each -/
def RowAt {α : Type} (sz : Nat) (In : World → Nat → Nat → α → Prop) (w : World) (v : Value) (l : List α) : Prop :=
  ∃ ao cap, v = .slice ao l.length cap ∧ l.length ≤ 9223372036854775807 ∧ (0 < l.length → ∃ b off, ao = some ⟨b, off, none⟩ ∧ b < w.heap.size ∧ ∀ i (h : i < l.length), In w b (off + i * sz) l[i]) ∧ (ao = none → cap = 0) ∧ l.length ≤ cap
def Stays {α : Type} (In : World → Nat → Nat → α → Prop) : Prop := ∀ (w w' : World) (b o : Nat) (x : α), In w b o x → b < w.heap.size → Below w.heap.size w w' → In w' b o x
theorem RowAt.below {α : Type} {sz : Nat} {In : World → Nat → Nat → α → Prop} (hs : Stays In) {w w' : World} {v : Value} {l : List α} (h : RowAt sz In w v l) (hb : Below w.heap.size w w') : RowAt sz In w' v l := by
  obtain ⟨ao, cap, hv, hl, hm, hz⟩ := h
  refine ⟨ao, cap, hv, hl, fun h0 => ?_, hz⟩
  obtain ⟨b, off, ha, hlt, hc⟩ := hm h0
  exact ⟨b, off, ha, Nat.lt_of_lt_of_le hlt hb.size, fun i hi => hs _ _ _ _ _ (hc i hi) hlt hb⟩
theorem RowAt.slice {α : Type} {sz : Nat} {In : World → Nat → Nat → α → Prop} {w : World} {v : Value} {l : List α} (h : RowAt sz In w v l) : ∃ ao cap, v = .slice ao l.length cap ∧ l.length ≤ 9223372036854775807 := by
  obtain ⟨ao, cap, hv, hl, _⟩ := h
  exact ⟨ao, cap, hv, hl⟩
theorem RowAt.at {α : Type} {sz : Nat} {In : World → Nat → Nat → α → Prop} {w : World} {ao : Option Addr} {n cap : Nat} {l : List α} (h : RowAt sz In w (.slice ao n cap) l) (k : Nat) (hk : k < l.length) : ∃ b off, ao = some ⟨b, off, none⟩ ∧ b < w.heap.size ∧ In w b (off + k * sz) l[k] := by
  obtain ⟨ao', cap', hv, hl, hm, hz⟩ := h
  cases hv
  obtain ⟨b, off, ha, hlt, hc⟩ := hm (by omega)
  exact ⟨b, off, ha, hlt, hc k hk⟩
theorem RowAt.cap {α : Type} {sz : Nat} {In : World → Nat → Nat → α → Prop} {w : World} {ao : Option Addr} {n cap : Nat} {l : List α} (h : RowAt sz In w (.slice ao n cap) l) : l.length ≤ cap := by
  obtain ⟨ao', cap', hv, _, _, _, hc⟩ := h
  cases hv; exact hc
theorem RowAt.len {α : Type} {sz : Nat} {In : World → Nat → Nat → α → Prop} {w : World} {ao : Option Addr} {n cap : Nat} {l : List α} (h : RowAt sz In w (.slice ao n cap) l) : n = l.length := by
  obtain ⟨ao', cap', hv, _⟩ := h
  cases hv; rfl
theorem RowAt.none {α : Type} {sz : Nat} {In : World → Nat → Nat → α → Prop} (w : World) : RowAt sz In w (.slice none 0 0) [] := ⟨.none, 0, rfl, by simp, (fun h => by simp at h), (fun _ => rfl), by simp⟩
/-- the first ones of a row -/
theorem RowAt.take {α : Type} {sz : Nat} {In : World → Nat → Nat → α → Prop} {w : World} {ao : Option Addr} {n cap : Nat} {l : List α} (h : RowAt sz In w (.slice ao n cap) l) (k : Nat) (hk : k ≤ l.length) : RowAt sz In w (.slice ao k cap) (l.take k) := by
  obtain ⟨ao', cap', hv, hl, hm, hz, hc⟩ := h
  cases hv
  have hlen : (l.take k).length = k := by rw [List.length_take]; omega
  refine ⟨ao, cap, by rw [hlen], by omega, fun h0 => ?_, hz, by omega⟩
  obtain ⟨b, off, ha, hlt, hcell⟩ := hm (by omega)
  refine ⟨b, off, ha, hlt, fun i hi => ?_⟩
  rw [List.getElem_take]
  exact hcell i (by omega)

/-- an instruction by value -/
abbrev ixV (x : Ix) (va vf : Value) : Value := .agg #[.int .u8 x.op, .int .i64 x.typ, .int .i64 x.a, .int .i64 x.b, .int .i64 x.n, va, vf]
abbrev exV (x : Ex) : Value := .agg #[.int .u8 x.kind, .int .i64 x.a, .int .i64 x.to, .int .i64 x.els]
abbrev bxV (x : Bx) (vi : Value) : Value := .agg #[vi, .int .u8 x.en.kind, .int .i64 x.en.a, .int .i64 x.en.to, .int .i64 x.en.els]
abbrev fxV (x : Fx) (vb : Value) : Value := .agg #[.int .i64 x.sig, vb]

def InsIn (w : World) (b o : Nat) (x : Ix) : Prop :=
  ∃ va vf, w.cell? ⟨b, o, none⟩ = some (.int .u8 x.op) ∧ w.cell? ⟨b, o + 1, none⟩ = some (.int .i64 x.typ) ∧ w.cell? ⟨b, o + 2, none⟩ = some (.int .i64 x.a) ∧ w.cell? ⟨b, o + 3, none⟩ = some (.int .i64 x.b) ∧ w.cell? ⟨b, o + 4, none⟩ = some (.int .i64 x.n) ∧
    w.cell? ⟨b, o + 5, none⟩ = some va ∧ w.cell? ⟨b, o + 6, none⟩ = some vf ∧ IntsAt w va x.args ∧ IntsAt w vf x.frm
theorem insStays : Stays InsIn := by
  intro w w' b o x h hlt hb
  obtain ⟨va, vf, h0, h1, h2, h3, h4, h5, h6, h7, h8⟩ := h
  exact ⟨va, vf, (hb.cell (p := ⟨b, _, none⟩) hlt).trans h0, (hb.cell (p := ⟨b, _, none⟩) hlt).trans h1, (hb.cell (p := ⟨b, _, none⟩) hlt).trans h2, (hb.cell (p := ⟨b, _, none⟩) hlt).trans h3, (hb.cell (p := ⟨b, _, none⟩) hlt).trans h4, (hb.cell (p := ⟨b, _, none⟩) hlt).trans h5, (hb.cell (p := ⟨b, _, none⟩) hlt).trans h6, h7.below hb, h8.below hb⟩
abbrev InsAt := RowAt 7 InsIn
def BlkIn (w : World) (b o : Nat) (x : Bx) : Prop :=
  ∃ vi, w.cell? ⟨b, o, none⟩ = some vi ∧ w.cell? ⟨b, o + 1, none⟩ = some (.int .u8 x.en.kind) ∧ w.cell? ⟨b, o + 2, none⟩ = some (.int .i64 x.en.a) ∧ w.cell? ⟨b, o + 3, none⟩ = some (.int .i64 x.en.to) ∧ w.cell? ⟨b, o + 4, none⟩ = some (.int .i64 x.en.els) ∧ InsAt w vi x.ins
theorem blkStays : Stays BlkIn := by
  intro w w' b o x h hlt hb
  obtain ⟨vi, h0, h1, h2, h3, h4, h5⟩ := h
  exact ⟨vi, (hb.cell (p := ⟨b, _, none⟩) hlt).trans h0, (hb.cell (p := ⟨b, _, none⟩) hlt).trans h1, (hb.cell (p := ⟨b, _, none⟩) hlt).trans h2, (hb.cell (p := ⟨b, _, none⟩) hlt).trans h3, (hb.cell (p := ⟨b, _, none⟩) hlt).trans h4, h5.below insStays hb⟩
abbrev BlksAt := RowAt 5 BlkIn
def FnIn (w : World) (b o : Nat) (x : Fx) : Prop :=
  ∃ vb, w.cell? ⟨b, o, none⟩ = some (.int .i64 x.sig) ∧ w.cell? ⟨b, o + 1, none⟩ = some vb ∧ BlksAt w vb x.blocks
theorem fnStays : Stays FnIn := by
  intro w w' b o x h hlt hb
  obtain ⟨vb, h0, h1, h2⟩ := h
  exact ⟨vb, (hb.cell (p := ⟨b, _, none⟩) hlt).trans h0, (hb.cell (p := ⟨b, _, none⟩) hlt).trans h1, h2.below blkStays hb⟩
abbrev FnsAt := RowAt 2 FnIn
/-- a program by value -/
def PrAt (w : World) (v : Value) (p : Px) : Prop := ∃ vt vf, v = .agg #[vt, vf] ∧ TysAt w vt p.types ∧ FnsAt w vf p.funcs
theorem PrAt.below {w w' : World} {v : Value} {p : Px} (h : PrAt w v p) (hb : Below w.heap.size w w') : PrAt w' v p := by
  obtain ⟨vt, vf, h1, h2, h3⟩ := h
  exact ⟨vt, vf, h1, h2.below hb, h3.below fnStays hb⟩

theorem alloc_below (w : World) (o : Obj) : Below w.heap.size w (w.alloc o) := (Below.refl _ _).alloc (Nat.le_refl _) _
theorem keep_below {w w' : World} {a : Addr} {v : Value} (hb : Below w.heap.size w w') (h : w.cell? a = some v) : w'.cell? a = some v := (hb.cell (World.block_lt_of_cell? w a h)).trans h
/-- a number, and old memory stays -/
def NumR (n : Int) (w : World) (e : Ending) (w' : World) : Prop := e = .returned (.int .i64 n) ∧ Below w.heap.size w w'

/-! how great programs are -/
def manyB (l : List Bx) : Nat := (l.map fun b => b.ins.length).sum
structure Small (p : Px) : Prop where
  types : p.types.length ≤ 20000
  parts : ∀ x ∈ p.types, x.parts.length ≤ 20000
  funcs : p.funcs.length ≤ 20000
  blocks : ∀ f ∈ p.funcs, f.blocks.length ≤ 20000
  many : ∀ f ∈ p.funcs, manyB f.blocks ≤ 20000
  args : ∀ f ∈ p.funcs, ∀ b ∈ f.blocks, ∀ x ∈ b.ins, x.args.length ≤ 20000 ∧ x.frm.length ≤ 20000
theorem manyB_nil : manyB [] = 0 := rfl
theorem manyB_cons (b : Bx) (l : List Bx) : manyB (b :: l) = b.ins.length + manyB l := by simp [manyB]
theorem manyB_append (a b : List Bx) : manyB (a ++ b) = manyB a + manyB b := by simp [manyB]
theorem manyB_take {l : List Bx} {k : Nat} (h : k < l.length) : manyB (l.take (k + 1)) = manyB (l.take k) + l[k].ins.length := by
  rw [List.take_succ_eq_append_getElem h, manyB_append, manyB_cons, manyB_nil, Nat.add_zero]
theorem manyB_le (l : List Bx) (k : Nat) : manyB (l.take k) ≤ manyB l := by
  conv => rhs; rw [← List.take_append_drop k l, manyB_append]
  omega
theorem manyB_mem {l : List Bx} {k : Nat} (h : k < l.length) : l[k].ins.length ≤ manyB l := by
  have h1 := manyB_take h
  have h2 := manyB_le l (k + 1)
  omega
end Go.Proofs.YtimnjkdhcnhkoaaGreatDoor.ShP
