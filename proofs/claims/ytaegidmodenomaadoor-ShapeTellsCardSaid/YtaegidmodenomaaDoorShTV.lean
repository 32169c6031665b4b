/- Walks over slices.Clone of functions, blocks, instructions. A program that is copied, on its way: plain facts. Walk over shape.Twin. What is written over: numbers stay numbers, lists stay where they are. Walk over fescuelaw06.spoil. -/
import Derived.Test.YtaegidmodenomaaDoorRwO
import Derived.Test.YtaegidmodenomaaDoorTyT
import Derived.Test.YtaegidmodenomaaDoorShTB
import Derived.Test.YtaegidmodenomaaDoorShTP
import Derived.Test.YtaegidmodenomaaDoorAft
import Derived.Deep.LoopGhost
namespace Go.Proofs.YtaegidmodenomaaDoor.ShTC
open Go.RowKit Go.Lib SetP IntO TyM TyP TyB TyW TyT ShM ShP ShB RwO ShTB

theorem pick_cell {n sz j : Nat} (hp : 0 < sz) (h : j < n * sz) : ∃ i c, i < n ∧ c < sz ∧ j = i * sz + c :=
  ⟨j / sz, j % sz, (Nat.div_lt_iff_lt_mul hp).2 h, Nat.mod_lt _ hp, by rw [Nat.mul_comm]; exact (Nat.div_add_mod j sz).symm⟩
/-- the elements of a row that lies in memory -/
theorem rows_of {α ρ : Type} {sz : Nat} {In : World → Nat → Nat → α → Prop} {f : ρ → List Value} {g : ρ → α} {Raw : ρ → Prop} {w : World} {v : Value} {l : List α} (hw : Wide f sz) (hp : 0 < sz) (y0 : ρ) (h : RowAt sz In w v l)
    (hin : ∀ b o x, In w b o x → ∃ y : ρ, g y = x ∧ Raw y ∧ ∀ j u, (f y)[j]? = some u → w.cell? ⟨b, o + j, none⟩ = some u) :
    ∃ (r : List ρ) (ao : Option Addr) (cap : Nat), r.map g = l ∧ v = .slice ao r.length cap ∧ (ao = none → cap = 0) ∧ r.length ≤ cap ∧ (∀ y ∈ r, Raw y) ∧
      (0 < r.length → ∃ b off, ao = some ⟨b, off, none⟩ ∧ b < w.heap.size ∧ ∀ j u, (rowOf f r)[j]? = some u → w.cell? ⟨b, off + j, none⟩ = some u) := by
  obtain ⟨ao, cap, rfl, hl, hm, hz, hc⟩ := h
  by_cases h0 : 0 < l.length
  · obtain ⟨b, off, rfl, hlt, hx⟩ := hm h0
    let X : Nat → ρ := fun i => if h : i < l.length then Classical.choose (hin b (off + i * sz) l[i] (hx i h)) else y0
    have hX : ∀ i (h : i < l.length), X i = Classical.choose (hin b (off + i * sz) l[i] (hx i h)) := fun i h => by simp [X, h]
    have hlen : ((List.range l.length).map X).length = l.length := by simp
    refine ⟨(List.range l.length).map X, some ⟨b, off, none⟩, cap, ?_, by rw [hlen], hz, by rw [hlen]; exact hc, ?_, fun _ => ⟨b, off, rfl, hlt, ?_⟩⟩
    · apply List.ext_getElem (by simp)
      intro i h1 h2
      simp only [List.getElem_map, List.getElem_range]
      rw [hX i h2]
      exact (Classical.choose_spec (hin b (off + i * sz) l[i] (hx i h2))).1
    · intro y hy
      obtain ⟨i, hi, rfl⟩ := List.mem_map.1 hy
      have hi' : i < l.length := by simpa using hi
      rw [hX i hi']
      exact (Classical.choose_spec (hin b (off + i * sz) l[i] (hx i hi'))).2.1
    · intro j u hj
      have hjl := (List.getElem?_eq_some_iff.1 hj).1
      rw [hw.len, hlen] at hjl
      obtain ⟨i, c, hi, hcs, rfl⟩ := pick_cell hp hjl
      rw [hw.at _ i (by rw [hlen]; exact hi) c hcs] at hj
      simp only [List.getElem_map, List.getElem_range] at hj
      rw [hX i hi] at hj
      rw [← Nat.add_assoc]
      exact (Classical.choose_spec (hin b (off + i * sz) l[i] (hx i hi))).2.2 c u hj
  · obtain rfl : l = [] := List.eq_nil_of_length_eq_zero (by omega)
    exact ⟨[], ao, cap, rfl, rfl, hz, by simp, by simp, fun h => absurd h (by simp)⟩

/-- a row, copied; what its elements hold is the old -/
def CloneRow {α ρ : Type} (f : ρ → List Value) (g : ρ → α) (te : TypeId) (sz : Nat) (Raw : ρ → Prop) (l : List α) (w : World) (e : Ending) (w' : World) : Prop :=
  ∃ u r, e = .returned u ∧ r.map g = l ∧ w'.ownsRow w.heap.size te sz u r.length (rowOf f r) ∧ (∀ y ∈ r, Raw y) ∧ Below w.heap.size w w'

/-- whose lists are the old ones -/
def RawI (w : World) (y : Ir) : Prop := IntsAt w y.va y.x.args ∧ IntsAt w y.vf y.x.frm
def RawB (w : World) (y : Br) : Prop := InsAt w y.vi (y.rows.map Ir.x)
def RawF (w : World) (y : Fr) : Prop := BlksAt w y.vb (y.blocks.map Br.bx)
theorem RawI.below {w w' : World} {y : Ir} (h : RawI w y) (hb : Below w.heap.size w w') : RawI w' y := ⟨h.1.below hb, h.2.below hb⟩
theorem RawB.below {w w' : World} {y : Br} (h : RawB w y) (hb : Below w.heap.size w w') : RawB w' y := RowAt.below insStays h hb
theorem RawF.below {w w' : World} {y : Fr} (h : RawF w y) (hb : Below w.heap.size w w') : RawF w' y := RowAt.below blkStays h hb
def bareI (x : Ix) : Ir := ⟨x, undef, undef⟩
def bareB (x : Bx) : Br := ⟨x.en, undef, x.ins.map bareI⟩
theorem bareI_x (l : List Ix) : (l.map bareI).map Ir.x = l := by
  rw [List.map_map]; exact List.map_id l
theorem bareB_bx (l : List Bx) : (l.map bareB).map Br.bx = l := by
  rw [List.map_map]
  have : (Br.bx ∘ bareB) = id := by funext x; simp only [Function.comp, Br.bx, bareB, bareI_x, id]
  rw [this]; exact List.map_id l
theorem rawI_of (w : World) (b o : Nat) (x : Ix) (h : InsIn w b o x) : ∃ y : Ir, Ir.x y = x ∧ RawI w y ∧ ∀ j u, (irV y)[j]? = some u → w.cell? ⟨b, o + j, none⟩ = some u := by
  obtain ⟨va, vf, c0, c1, c2, c3, c4, c5, c6, ha, hf⟩ := h
  refine ⟨⟨x, va, vf⟩, rfl, ⟨ha, hf⟩, fun j u hj => ?_⟩
  have hjl : j < 7 := (List.getElem?_eq_some_iff.1 hj).1
  have hc : j = 0 ∨ j = 1 ∨ j = 2 ∨ j = 3 ∨ j = 4 ∨ j = 5 ∨ j = 6 := by omega
  rcases hc with rfl | rfl | rfl | rfl | rfl | rfl | rfl <;> (cases hj; assumption)
theorem rawB_of (w : World) (b o : Nat) (x : Bx) (h : BlkIn w b o x) : ∃ y : Br, Br.bx y = x ∧ RawB w y ∧ ∀ j u, (brV y)[j]? = some u → w.cell? ⟨b, o + j, none⟩ = some u := by
  obtain ⟨vi, c0, c1, c2, c3, c4, hi⟩ := h
  refine ⟨⟨x.en, vi, x.ins.map bareI⟩, by simp only [Br.bx, bareI_x], (by unfold RawB; simp only [bareI_x]; exact hi), fun j u hj => ?_⟩
  have hjl : j < 5 := (List.getElem?_eq_some_iff.1 hj).1
  have hc : j = 0 ∨ j = 1 ∨ j = 2 ∨ j = 3 ∨ j = 4 := by omega
  rcases hc with rfl | rfl | rfl | rfl | rfl <;> (cases hj; assumption)
theorem rawF_of (w : World) (b o : Nat) (x : Fx) (h : FnIn w b o x) : ∃ y : Fr, Fr.fx y = x ∧ RawF w y ∧ ∀ j u, (frV y)[j]? = some u → w.cell? ⟨b, o + j, none⟩ = some u := by
  obtain ⟨vb, c0, c1, hi⟩ := h
  refine ⟨⟨x.sig, vb, x.blocks.map bareB⟩, by simp only [Fr.fx, bareB_bx], (by unfold RawF; simp only [bareB_bx]; exact hi), fun j u hj => ?_⟩
  have hjl : j < 2 := (List.getElem?_eq_some_iff.1 hj).1
  have hc : j = 0 ∨ j = 1 := by omega
  rcases hc with rfl | rfl <;> (cases hj; assumption)
theorem RawI.one {w : World} {y : Ir} (h : RawI w y) : ∀ u ∈ irV y, u.oneCell' = true := by
  obtain ⟨a, c, h1, _⟩ := ints_slice h.1
  obtain ⟨a2, c2, h2, _⟩ := ints_slice h.2
  exact oneIr y ⟨_, _, _, h1⟩ ⟨_, _, _, h2⟩
theorem RawB.one {w : World} {y : Br} (h : RawB w y) : ∀ u ∈ brV y, u.oneCell' = true := by
  obtain ⟨a, c, h1, _⟩ := RowAt.slice h
  exact oneBr y ⟨_, _, _, h1⟩
theorem RawF.one {w : World} {y : Fr} (h : RawF w y) : ∀ u ∈ frV y, u.oneCell' = true := by
  obtain ⟨a, c, h1, _⟩ := RowAt.slice h
  exact oneFr y ⟨_, _, _, h1⟩

set_option maxHeartbeats 1000000 in
theorem cloneF_calls (v : Value) (l : List Fx) (w0 w : World) (hl : FnsAt w0 v l) (h0 : Below w0.heap.size w0 w) (hlen : l.length ≤ 100000) : Calls Tryd.prog 43 #[v] w (CloneRow frV Fr.fx 33 2 (RawF w0) l w) := by
  obtain ⟨r, ao, cap, hr, rfl, hz, hcap, hraw, hcell⟩ := rows_of (f := frV) (g := Fr.fx) (Raw := RawF w0) frW (by decide) ⟨0, undef, []⟩ hl (rawF_of w0)
  have hrl : r.length ≤ 100000 := by rw [← hr, List.length_map] at hlen; exact hlen
  have HI := hid hraw
  have HC := hid hcell
  have HR := hid hr
  have hnil := fun (w : World) (a : Option Addr) (n c : Nat) => Lib.run_eql_slice_nil (P := Tryd.prog) w 27 33 a n c 0 0 Tryd.underlying27
  clear hl hr hlen
  cases ao with
  | none =>
    obtain rfl := hz rfl
    have hr0 : r = [] := by
      by_cases hp : 0 < r.length
      · obtain ⟨b, off, hb, _⟩ := hcell hp
        cases hb
      · exact List.eq_nil_of_length_eq_zero (by omega)
    subst hr0
    clear hcell hraw hz HC HI
    go_enter Tryd.func43, Tryd.ntmps43
    go_wp2
    go_ret
    exact ⟨_, [], rfl, HR.out, World.ownsRow_nil _ _ _ _, (by simp), Below.refl _ _⟩
  | some ad =>
    have HR1 : Hid (∀ y ∈ r, ∀ u ∈ frV y, u.oneCell' = true) := fun y hy => (HI.out y hy).one
    have hb0 : Below w.heap.size w (w.alloc (.cells #[] 33)) := (Below.refl _ _).alloc (Nat.le_refl _) _
    have HC2 : Hid (0 < r.length → ∃ b off, some ad = some ⟨b, off, none⟩ ∧ ∀ j u, (rowOf frV r)[j]? = some u → (w.alloc (.cells #[] 33)).cell? ⟨b, off + j, none⟩ = some u) := fun hp => by
      obtain ⟨b, off, h1, h2, h3⟩ := HC.out hp
      exact ⟨b, off, h1, fun j u hj => (hb0.cell (p := ⟨b, off + j, none⟩) (Nat.lt_of_lt_of_le h2 h0.size)).trans ((h0.cell (p := ⟨b, off + j, none⟩) h2).trans (h3 j u hj))⟩
    have HOWN := hid (World.ownsRow_made (base := w.heap.size) (e := 33) (size := 2) w #[] 0 (Nat.le_refl _) (by decide) (by simp))
    have hsz : w.heap.size ≤ (w.alloc (.cells #[] 33)).heap.size := by simp
    clear hcell hraw hz HC
    go_enter Tryd.func43, Tryd.ntmps43
    go_wp2_with (at_builtin; refine wpList_append_row frW (by decide) infoFn Tryd.underlying27 zeroFn rfl _ _ rfl w.heap.size (.slice (some ⟨w.heap.size, 0, none⟩) 0 0) rfl 0 [] HOWN.out (some ad) r.length cap r rfl rfl HR1.out (fun h => by cases h) HC2.out (by unfold maxLen; omega) (by omega) hsz ?_)
    intro v' w' hown' hgrow
    have hbe := hb0.grown hgrow (by simp) (fun g hg => by simp [Value.ownBlock] at hg; omega)
    clear hgrow
    go_wp2
    go_ret
    exact ⟨v', r, rfl, HR.out, by simpa using hown', HI.out, hbe⟩

set_option maxHeartbeats 1000000 in
theorem cloneB_calls (v : Value) (l : List Bx) (w0 w : World) (hl : BlksAt w0 v l) (h0 : Below w0.heap.size w0 w) (hlen : l.length ≤ 100000) : Calls Tryd.prog 44 #[v] w (CloneRow brV Br.bx 38 5 (RawB w0) l w) := by
  obtain ⟨r, ao, cap, hr, rfl, hz, hcap, hraw, hcell⟩ := rows_of (f := brV) (g := Br.bx) (Raw := RawB w0) brW (by decide) ⟨⟨0, 0, 0, 0⟩, undef, []⟩ hl (rawB_of w0)
  have hrl : r.length ≤ 100000 := by rw [← hr, List.length_map] at hlen; exact hlen
  have HI := hid hraw
  have HC := hid hcell
  have HR := hid hr
  have hnil := fun (w : World) (a : Option Addr) (n c : Nat) => Lib.run_eql_slice_nil (P := Tryd.prog) w 31 38 a n c 0 0 Tryd.underlying31
  clear hl hr hlen
  cases ao with
  | none =>
    obtain rfl := hz rfl
    have hr0 : r = [] := by
      by_cases hp : 0 < r.length
      · obtain ⟨b, off, hb, _⟩ := hcell hp
        cases hb
      · exact List.eq_nil_of_length_eq_zero (by omega)
    subst hr0
    clear hcell hraw hz HC HI
    go_enter Tryd.func44, Tryd.ntmps44
    go_wp2
    go_ret
    exact ⟨_, [], rfl, HR.out, World.ownsRow_nil _ _ _ _, (by simp), Below.refl _ _⟩
  | some ad =>
    have HR1 : Hid (∀ y ∈ r, ∀ u ∈ brV y, u.oneCell' = true) := fun y hy => (HI.out y hy).one
    have hb0 : Below w.heap.size w (w.alloc (.cells #[] 38)) := (Below.refl _ _).alloc (Nat.le_refl _) _
    have HC2 : Hid (0 < r.length → ∃ b off, some ad = some ⟨b, off, none⟩ ∧ ∀ j u, (rowOf brV r)[j]? = some u → (w.alloc (.cells #[] 38)).cell? ⟨b, off + j, none⟩ = some u) := fun hp => by
      obtain ⟨b, off, h1, h2, h3⟩ := HC.out hp
      exact ⟨b, off, h1, fun j u hj => (hb0.cell (p := ⟨b, off + j, none⟩) (Nat.lt_of_lt_of_le h2 h0.size)).trans ((h0.cell (p := ⟨b, off + j, none⟩) h2).trans (h3 j u hj))⟩
    have HOWN := hid (World.ownsRow_made (base := w.heap.size) (e := 38) (size := 5) w #[] 0 (Nat.le_refl _) (by decide) (by simp))
    have hsz : w.heap.size ≤ (w.alloc (.cells #[] 38)).heap.size := by simp
    clear hcell hraw hz HC
    go_enter Tryd.func44, Tryd.ntmps44
    go_wp2_with (at_builtin; refine wpList_append_row brW (by decide) infoBlk Tryd.underlying31 zeroBlk rfl _ _ rfl w.heap.size (.slice (some ⟨w.heap.size, 0, none⟩) 0 0) rfl 0 [] HOWN.out (some ad) r.length cap r rfl rfl HR1.out (fun h => by cases h) HC2.out (by unfold maxLen; omega) (by omega) hsz ?_)
    intro v' w' hown' hgrow
    have hbe := hb0.grown hgrow (by simp) (fun g hg => by simp [Value.ownBlock] at hg; omega)
    clear hgrow
    go_wp2
    go_ret
    exact ⟨v', r, rfl, HR.out, by simpa using hown', HI.out, hbe⟩

set_option maxHeartbeats 1000000 in
theorem cloneI_calls (v : Value) (l : List Ix) (w0 w : World) (hl : InsAt w0 v l) (h0 : Below w0.heap.size w0 w) (hlen : l.length ≤ 100000) : Calls Tryd.prog 45 #[v] w (CloneRow irV Ir.x 25 7 (RawI w0) l w) := by
  obtain ⟨r, ao, cap, hr, rfl, hz, hcap, hraw, hcell⟩ := rows_of (f := irV) (g := Ir.x) (Raw := RawI w0) irW (by decide) ⟨default, undef, undef⟩ hl (rawI_of w0)
  have hrl : r.length ≤ 100000 := by rw [← hr, List.length_map] at hlen; exact hlen
  have HI := hid hraw
  have HC := hid hcell
  have HR := hid hr
  have hnil := fun (w : World) (a : Option Addr) (n c : Nat) => Lib.run_eql_slice_nil (P := Tryd.prog) w 36 25 a n c 0 0 Tryd.underlying36
  clear hl hr hlen
  cases ao with
  | none =>
    obtain rfl := hz rfl
    have hr0 : r = [] := by
      by_cases hp : 0 < r.length
      · obtain ⟨b, off, hb, _⟩ := hcell hp
        cases hb
      · exact List.eq_nil_of_length_eq_zero (by omega)
    subst hr0
    clear hcell hraw hz HC HI
    go_enter Tryd.func45, Tryd.ntmps45
    go_wp2
    go_ret
    exact ⟨_, [], rfl, HR.out, World.ownsRow_nil _ _ _ _, (by simp), Below.refl _ _⟩
  | some ad =>
    have HR1 : Hid (∀ y ∈ r, ∀ u ∈ irV y, u.oneCell' = true) := fun y hy => (HI.out y hy).one
    have hb0 : Below w.heap.size w (w.alloc (.cells #[] 25)) := (Below.refl _ _).alloc (Nat.le_refl _) _
    have HC2 : Hid (0 < r.length → ∃ b off, some ad = some ⟨b, off, none⟩ ∧ ∀ j u, (rowOf irV r)[j]? = some u → (w.alloc (.cells #[] 25)).cell? ⟨b, off + j, none⟩ = some u) := fun hp => by
      obtain ⟨b, off, h1, h2, h3⟩ := HC.out hp
      exact ⟨b, off, h1, fun j u hj => (hb0.cell (p := ⟨b, off + j, none⟩) (Nat.lt_of_lt_of_le h2 h0.size)).trans ((h0.cell (p := ⟨b, off + j, none⟩) h2).trans (h3 j u hj))⟩
    have HOWN := hid (World.ownsRow_made (base := w.heap.size) (e := 25) (size := 7) w #[] 0 (Nat.le_refl _) (by decide) (by simp))
    have hsz : w.heap.size ≤ (w.alloc (.cells #[] 25)).heap.size := by simp
    clear hcell hraw hz HC
    go_enter Tryd.func45, Tryd.ntmps45
    go_wp2_with (at_builtin; refine wpList_append_row irW (by decide) infoIns Tryd.underlying36 zeroIns rfl _ _ rfl w.heap.size (.slice (some ⟨w.heap.size, 0, none⟩) 0 0) rfl 0 [] HOWN.out (some ad) r.length cap r rfl rfl HR1.out (fun h => by cases h) HC2.out (by unfold maxLen; omega) (by omega) hsz ?_)
    intro v' w' hown' hgrow
    have hbe := hb0.grown hgrow (by simp) (fun g hg => by simp [Value.ownBlock] at hg; omega)
    clear hgrow
    go_wp2
    go_ret
    exact ⟨v', r, rfl, HR.out, by simpa using hown', HI.out, hbe⟩
end Go.Proofs.YtaegidmodenomaaDoor.ShTC

namespace Go.Proofs.YtaegidmodenomaaDoor.ShTM
open Go.RowKit Go.Lib SetP IntO TyM TyP TyB TyW TyT ShM ShP ShB RwO ShTB ShTC

theorem grown_trans {a b c : World} {row : Option Nat} (h : a.grownBy b row) (k : b.grownBy c row) : a.grownBy c row :=
  ⟨k.os.trans h.os, k.tape.trans h.tape, k.output.trans h.output, Nat.le_trans h.size k.size, fun j hj hne => (k.block j (Nat.lt_of_lt_of_le hj h.size) hne).trans (h.block j hj hne)⟩
theorem grown_below {a b c : World} {row : Option Nat} (h : a.grownBy b row) (k : Below b.heap.size b c) : a.grownBy c row :=
  ⟨k.os.trans h.os, k.tape.trans h.tape, k.output.trans h.output, Nat.le_trans h.size k.size, fun j hj hne => (k.block j (Nat.lt_of_lt_of_le hj h.size)).trans (h.block j hj hne)⟩
theorem grown_new {a b c : World} {row row2 : Option Nat} (h : a.grownBy b row) (k : b.grownBy c row2) (hn : ∀ g, row2 = some g → a.heap.size ≤ g) : a.grownBy c row :=
  ⟨k.os.trans h.os, k.tape.trans h.tape, k.output.trans h.output, Nat.le_trans h.size k.size, fun j hj hne => (k.block j (Nat.lt_of_lt_of_le hj h.size) (fun e => by have := hn j e.symm; omega)).trans (h.block j hj hne)⟩
theorem below_grown {a b : World} (h : Below a.heap.size a b) (row : Option Nat) : a.grownBy b row := ⟨h.os, h.tape, h.output, h.size, fun j hj _ => h.block j hj⟩
theorem map_set {α β : Type} (f : α → β) {l : List α} {k : Nat} (h : k < l.length) {y : α} (hy : f y = f l[k]) : (l.set k y).map f = l.map f := by
  apply List.ext_getElem (by simp)
  intro i h1 h2
  simp only [List.getElem_map, List.getElem_set]
  split
  · next e => subst e; exact hy
  · rfl
theorem own_block {w : World} {B s n : Nat} {e : TypeId} {g m c : Nat} {xs : List Value} (h : w.ownsRow B e s (.slice (some ⟨g, 0, none⟩) m c) n xs) : B ≤ g ∧ (∃ cs fr, w.heap[g]? = some (.cells cs e fr)) := by
  exact ⟨(h.lt g rfl).1, own_typed h g rfl⟩

/-- instructions on their way: the first k have lists of their own -/
def MidI (w : World) (B : Nat) (w2 : World) (l : List Ix) (v : Value) (k : Nat) (wq : World) : Prop :=
  ∃ r : List Ir, r.map Ir.x = l ∧ wq.ownsRow B 25 7 v r.length (rowOf irV r) ∧ (∀ i (h : i < r.length), if i < k then OwnIr B wq r[i] else RawI w r[i]) ∧ w2.grownBy wq v.ownBlock
def MidB (w : World) (B : Nat) (w2 : World) (l : List Bx) (v : Value) (k : Nat) (wq : World) : Prop :=
  ∃ r : List Br, r.map Br.bx = l ∧ wq.ownsRow B 38 5 v r.length (rowOf brV r) ∧ (∀ i (h : i < r.length), if i < k then OwnIns B wq r[i].vi r[i].rows else RawB w r[i]) ∧ w2.grownBy wq v.ownBlock
def MidF (w : World) (B : Nat) (w2 : World) (l : List Fx) (v : Value) (k : Nat) (wq : World) : Prop :=
  ∃ r : List Fr, r.map Fr.fx = l ∧ wq.ownsRow B 33 2 v r.length (rowOf frV r) ∧ (∀ i (h : i < r.length), if i < k then OwnBlks B wq r[i].vb r[i].blocks else RawF w r[i]) ∧ w2.grownBy wq v.ownBlock

theorem MidI.start {w w2 : World} {B : Nat} {l : List Ix} {v : Value} {r : List Ir} (hr : r.map Ir.x = l) (ho : w2.ownsRow B 25 7 v r.length (rowOf irV r)) (hraw : ∀ y ∈ r, RawI w y) : MidI w B w2 l v 0 w2 :=
  ⟨r, hr, ho, fun i h => by rw [if_neg (by omega)]; exact hraw _ (List.getElem_mem h), World.grownBy.refl _ _⟩
theorem MidB.start {w w2 : World} {B : Nat} {l : List Bx} {v : Value} {r : List Br} (hr : r.map Br.bx = l) (ho : w2.ownsRow B 38 5 v r.length (rowOf brV r)) (hraw : ∀ y ∈ r, RawB w y) : MidB w B w2 l v 0 w2 :=
  ⟨r, hr, ho, fun i h => by rw [if_neg (by omega)]; exact hraw _ (List.getElem_mem h), World.grownBy.refl _ _⟩
theorem MidF.start {w w2 : World} {B : Nat} {l : List Fx} {v : Value} {r : List Fr} (hr : r.map Fr.fx = l) (ho : w2.ownsRow B 33 2 v r.length (rowOf frV r)) (hraw : ∀ y ∈ r, RawF w y) : MidF w B w2 l v 0 w2 :=
  ⟨r, hr, ho, fun i h => by rw [if_neg (by omega)]; exact hraw _ (List.getElem_mem h), World.grownBy.refl _ _⟩
theorem MidI.done {w w2 wq : World} {B : Nat} {l : List Ix} {v : Value} (h : MidI w B w2 l v l.length wq) : ∃ r, r.map Ir.x = l ∧ OwnIns B wq v r ∧ w2.grownBy wq v.ownBlock := by
  obtain ⟨r, hr, ho, hd, hg⟩ := h
  refine ⟨r, hr, ⟨ho, fun y hy => ?_⟩, hg⟩
  obtain ⟨i, hi, rfl⟩ := List.mem_iff_getElem.1 hy
  have := hd i hi
  rwa [if_pos (by rw [← hr, List.length_map]; exact hi)] at this
theorem MidB.done {w w2 wq : World} {B : Nat} {l : List Bx} {v : Value} (h : MidB w B w2 l v l.length wq) : ∃ r, r.map Br.bx = l ∧ OwnBlks B wq v r ∧ w2.grownBy wq v.ownBlock := by
  obtain ⟨r, hr, ho, hd, hg⟩ := h
  refine ⟨r, hr, ⟨ho, fun y hy => ?_⟩, hg⟩
  obtain ⟨i, hi, rfl⟩ := List.mem_iff_getElem.1 hy
  have := hd i hi
  rwa [if_pos (by rw [← hr, List.length_map]; exact hi)] at this
theorem MidF.done {w w2 wq : World} {B : Nat} {l : List Fx} {v : Value} (h : MidF w B w2 l v l.length wq) : ∃ r, r.map Fr.fx = l ∧ OwnFns B wq v r ∧ w2.grownBy wq v.ownBlock := by
  obtain ⟨r, hr, ho, hd, hg⟩ := h
  refine ⟨r, hr, ⟨ho, fun y hy => ?_⟩, hg⟩
  obtain ⟨i, hi, rfl⟩ := List.mem_iff_getElem.1 hy
  have := hd i hi
  rwa [if_pos (by rw [← hr, List.length_map]; exact hi)] at this

theorem MidI.step {w w2 wq w4 : World} {B g n cap k m1 m2 : Nat} {l : List Ix} {u1 u2 : Value} (h : MidI w B w2 l (.slice (some ⟨g, 0, none⟩) n cap) k wq) (hk : k < l.length) (hB : B ≤ wq.heap.size) (hb : Below wq.heap.size wq w4)
    (h1 : w4.ownsRow wq.heap.size 3 1 u1 m1 (intVals l[k].args)) (h2 : w4.ownsRow wq.heap.size 3 1 u2 m2 (intVals l[k].frm)) :
    MidI w B w2 l (.slice (some ⟨g, 0, none⟩) n cap) (k + 1) ((w4.setCell ⟨g, k * 7 + 5, none⟩ u1).setCell ⟨g, k * 7 + 6, none⟩ u2) := by
  obtain ⟨r, rfl, ho, hd, hg⟩ := h
  have hkr : k < r.length := by simpa using hk
  have hn : r.length = n := by
    rcases ho.2 with ⟨hh, _⟩ | ⟨_, _, _, hh, _⟩
    · cases hh
    · cases hh; rfl
  subst hn
  simp only [List.getElem_map] at h1 h2
  have ho4 := ownsRow_below ho hb
  obtain ⟨ho5, hg5⟩ := ho4.stored (k * 7 + 5) u1
  obtain ⟨ho6, hg6⟩ := ho5.stored (k * 7 + 6) u2
  obtain ⟨hgB, ht4⟩ := own_block ho4
  obtain ⟨_, ht5⟩ := own_block ho5
  have e1 : (rowOf irV r).set (k * 7 + 5) u1 = rowOf irV (r.set k ⟨r[k].x, u1, r[k].vf⟩) := irW.set (by decide) r k hkr _ rfl
  have hk1 : k < (r.set k ⟨r[k].x, u1, r[k].vf⟩).length := by simpa using hkr
  have e2 : (rowOf irV (r.set k ⟨r[k].x, u1, r[k].vf⟩)).set (k * 7 + 6) u2 = rowOf irV ((r.set k ⟨r[k].x, u1, r[k].vf⟩).set k ⟨r[k].x, u1, u2⟩) := irW.set (by decide) _ k hk1 _ (by simp [irV])
  rw [e1, e2, List.set_set] at ho6
  have ty4 : ∀ g', some g = some g' → ∃ cs fr, w4.heap[g']? = some (.cells cs 25 fr) := fun g' e => by cases e; exact ht4
  have ty5 : ∀ g', some g = some g' → ∃ cs fr, (w4.setCell ⟨g, k * 7 + 5, none⟩ u1).heap[g']? = some (.cells cs 25 fr) := fun g' e => by cases e; exact ht5
  refine ⟨r.set k ⟨r[k].x, u1, u2⟩, map_set Ir.x hkr rfl, by rw [List.length_set]; exact ho6, fun i hi => ?_, grown_trans (grown_trans (grown_below hg hb) hg5) hg6⟩
  rw [List.length_set] at hi
  rw [List.getElem_set]
  by_cases e : k = i
  · subst e
    rw [if_pos rfl, if_pos (by omega)]
    refine OwnIr.other (OwnIr.other (?_ : OwnIr B w4 ⟨r[k].x, u1, u2⟩) hg5 ty4 (by decide)) hg6 ty5 (by decide)
    exact ⟨owns_base (own_at h1 rfl rfl) hB, owns_base (own_at h2 rfl rfl) hB⟩
  · rw [if_neg e]
    have := hd i hi
    by_cases hik : i < k
    · rw [if_pos hik] at this
      rw [if_pos (by omega)]
      exact ((this.below hb).other hg5 ty4 (by decide)).other hg6 ty5 (by decide)
    · rw [if_neg hik] at this
      rw [if_neg (by omega)]
      exact this

theorem MidB.step {w w2 wb w1 wq : World} {B g n cap k m : Nat} {l : List Bx} {vi : Value} {xs : List Value} (h : MidB w B w2 l (.slice (some ⟨g, 0, none⟩) n cap) k wb) (hk : k < l.length) (hB : B ≤ wb.heap.size) (hb : Below wb.heap.size wb w1)
    (ho : w1.ownsRow wb.heap.size 25 7 vi m xs) (hm : MidI w wb.heap.size (w1.setCell ⟨g, k * 5, none⟩ vi) l[k].ins vi l[k].ins.length wq) :
    MidB w B w2 l (.slice (some ⟨g, 0, none⟩) n cap) (k + 1) wq := by
  obtain ⟨r, rfl, hr, hd, hg⟩ := h
  have hkr : k < r.length := by simpa using hk
  have hn : r.length = n := by
    rcases hr.2 with ⟨hh, _⟩ | ⟨_, _, _, hh, _⟩
    · cases hh
    · cases hh; rfl
  subst hn
  obtain ⟨rows, hrows, hown, hgq⟩ := hm.done
  simp only [List.getElem_map] at hrows
  have hr1 := ownsRow_below hr hb
  obtain ⟨hr3, hg3⟩ := hr1.stored (k * 5) vi
  obtain ⟨_, htb⟩ := own_block hr
  obtain ⟨_, ht1⟩ := own_block hr1
  have e1 : (rowOf brV r).set (k * 5) vi = rowOf brV (r.set k ⟨r[k].en, vi, rows⟩) := brW.set (j := 0) (by decide) r k hkr _ rfl
  have tyb : ∀ g', some g = some g' → ∃ cs fr, wb.heap[g']? = some (.cells cs 38 fr) := fun g' e => by cases e; exact htb
  have ty1 : ∀ g', some g = some g' → ∃ cs fr, w1.heap[g']? = some (.cells cs 38 fr) := fun g' e => by cases e; exact ht1
  have ho3 := owns_other ho hg3 ty1 (by decide)
  have hr4 := owns_other hr3 hgq (own_typed ho3) (by decide)
  rw [e1] at hr4
  have hG : wb.grownBy wq (some g) := grown_new (grown_trans (below_grown hb _) hg3) hgq (fun g' e => (ho3.lt g' e).1)
  refine ⟨r.set k ⟨r[k].en, vi, rows⟩, map_set Br.bx hkr (by simp only [Br.bx, hrows]), by rw [List.length_set]; exact hr4, fun i hi => ?_, grown_trans hg hG⟩
  rw [List.length_set] at hi
  rw [List.getElem_set]
  by_cases e : k = i
  · subst e
    rw [if_pos rfl, if_pos (by omega)]
    exact hown.base hB
  · rw [if_neg e]
    have := hd i hi
    by_cases hik : i < k
    · rw [if_pos hik] at this
      rw [if_pos (by omega)]
      exact this.other hG tyb (by decide) (by decide)
    · rw [if_neg hik] at this
      rw [if_neg (by omega)]
      exact this

theorem MidF.step {w w2 wf w1 wq : World} {B g n cap k m : Nat} {l : List Fx} {vb : Value} {xs : List Value} (h : MidF w B w2 l (.slice (some ⟨g, 0, none⟩) n cap) k wf) (hk : k < l.length) (hB : B ≤ wf.heap.size) (hb : Below wf.heap.size wf w1)
    (ho : w1.ownsRow wf.heap.size 38 5 vb m xs) (hm : MidB w wf.heap.size w1 l[k].blocks vb l[k].blocks.length wq) :
    MidF w B w2 l (.slice (some ⟨g, 0, none⟩) n cap) (k + 1) (wq.setCell ⟨g, k * 2 + 1, none⟩ vb) ∧ Below wf.heap.size wf wq := by
  obtain ⟨r, rfl, hr, hd, hg⟩ := h
  have hkr : k < r.length := by simpa using hk
  have hn : r.length = n := by
    rcases hr.2 with ⟨hh, _⟩ | ⟨_, _, _, hh, _⟩
    · cases hh
    · cases hh; rfl
  subst hn
  obtain ⟨bl, hbl, hown, hgq⟩ := hm.done
  simp only [List.getElem_map] at hbl
  have hbq : Below wf.heap.size wf wq := hb.grown hgq hb.size (fun g' e => (ho.lt g' e).1)
  have hr1 := ownsRow_below hr hbq
  obtain ⟨hr3, hg3⟩ := hr1.stored (k * 2 + 1) vb
  obtain ⟨_, ht1⟩ := own_block hr1
  have e1 : (rowOf frV r).set (k * 2 + 1) vb = rowOf frV (r.set k ⟨r[k].sig, vb, bl⟩) := frW.set (by decide) r k hkr _ rfl
  have ty1 : ∀ g', some g = some g' → ∃ cs fr, wq.heap[g']? = some (.cells cs 33 fr) := fun g' e => by cases e; exact ht1
  rw [e1] at hr3
  refine ⟨⟨r.set k ⟨r[k].sig, vb, bl⟩, map_set Fr.fx hkr (by simp only [Fr.fx, hbl]), by rw [List.length_set]; exact hr3, fun i hi => ?_, grown_trans (grown_below hg hbq) hg3⟩, hbq⟩
  rw [List.length_set] at hi
  rw [List.getElem_set]
  by_cases e : k = i
  · subst e
    rw [if_pos rfl, if_pos (by omega)]
    exact (hown.base hB).other hg3 ty1 (by decide) (by decide) (by decide)
  · rw [if_neg e]
    have := hd i hi
    by_cases hik : i < k
    · rw [if_pos hik] at this
      rw [if_pos (by omega)]
      exact (this.below hbq).other hg3 ty1 (by decide) (by decide) (by decide)
    · rw [if_neg hik] at this
      rw [if_neg (by omega)]
      exact this

/-- what is loaded, and may be stored into -/
theorem MidI.cells {w w2 wq : World} {B : Nat} {l : List Ix} {v : Value} {k : Nat} (h : MidI w B w2 l v k wq) (hk : k < l.length) : ∃ g cap va vf, v = .slice (some ⟨g, 0, none⟩) l.length cap ∧ B ≤ g ∧ g < wq.heap.size ∧ (∃ cs, wq.heap[g]? = some (.cells cs 25 (0, 0))) ∧ wq.cell? ⟨g, k * 7 + 5, none⟩ = some va ∧ wq.cell? ⟨g, k * 7 + 6, none⟩ = some vf ∧ IntsAt w va l[k].args ∧ IntsAt w vf l[k].frm := by
  obtain ⟨r, rfl, ho, hd, hg⟩ := h
  have hkr : k < r.length := by simpa using hk
  have hd := hd k hkr
  rw [if_neg (by omega)] at hd
  rcases ho.2 with ⟨_, h0⟩ | ⟨g, cap, cur, rfl, hgB, hh, hn, hm, hs, ht⟩
  · omega
  · have c5 := ho.cellAt (k * 7 + 5) (by omega)
    have c6 := ho.cellAt (k * 7 + 6) (by omega)
    rw [irW.at r k hkr 5 (by decide)] at c5
    rw [irW.at r k hkr 6 (by decide)] at c6
    simp only [List.length_map, List.getElem_map]
    exact ⟨g, cap, _, _, rfl, hgB, (Array.getElem?_eq_some_iff.1 hh).1, ⟨cur, hh⟩, c5, c6, hd.1, hd.2⟩
theorem MidB.cells {w w2 wq : World} {B : Nat} {l : List Bx} {v : Value} {k : Nat} (h : MidB w B w2 l v k wq) (hk : k < l.length) : ∃ g cap vi, v = .slice (some ⟨g, 0, none⟩) l.length cap ∧ B ≤ g ∧ g < wq.heap.size ∧ (∃ cs, wq.heap[g]? = some (.cells cs 38 (0, 0))) ∧ wq.cell? ⟨g, k * 5, none⟩ = some vi ∧ InsAt w vi l[k].ins := by
  obtain ⟨r, rfl, ho, hd, hg⟩ := h
  have hkr : k < r.length := by simpa using hk
  have hd := hd k hkr
  rw [if_neg (by omega)] at hd
  rcases ho.2 with ⟨_, h0⟩ | ⟨g, cap, cur, rfl, hgB, hh, hn, hm, hs, ht⟩
  · omega
  · have c0 := ho.cellAt (k * 5 + 0) (by omega)
    rw [brW.at r k hkr 0 (by decide)] at c0
    simp only [List.length_map, List.getElem_map]
    exact ⟨g, cap, _, rfl, hgB, (Array.getElem?_eq_some_iff.1 hh).1, ⟨cur, hh⟩, c0, hd⟩
theorem MidF.cells {w w2 wq : World} {B : Nat} {l : List Fx} {v : Value} {k : Nat} (h : MidF w B w2 l v k wq) (hk : k < l.length) : ∃ g cap vb, v = .slice (some ⟨g, 0, none⟩) l.length cap ∧ B ≤ g ∧ g < wq.heap.size ∧ (∃ cs, wq.heap[g]? = some (.cells cs 33 (0, 0))) ∧ wq.cell? ⟨g, k * 2 + 1, none⟩ = some vb ∧ BlksAt w vb l[k].blocks := by
  obtain ⟨r, rfl, ho, hd, hg⟩ := h
  have hkr : k < r.length := by simpa using hk
  have hd := hd k hkr
  rw [if_neg (by omega)] at hd
  rcases ho.2 with ⟨_, h0⟩ | ⟨g, cap, cur, rfl, hgB, hh, hn, hm, hs, ht⟩
  · omega
  · have c0 := ho.cellAt (k * 2 + 1) (by omega)
    rw [frW.at r k hkr 1 (by decide)] at c0
    simp only [List.length_map, List.getElem_map]
    exact ⟨g, cap, _, rfl, hgB, (Array.getElem?_eq_some_iff.1 hh).1, ⟨cur, hh⟩, c0, hd⟩
theorem MidI.below {w w2 wq : World} {B k : Nat} {l : List Ix} {v : Value} (h : MidI w B w2 l v k wq) (hB : B ≤ w2.heap.size) : Below B w2 wq := by
  obtain ⟨r, _, ho, _, hg⟩ := h
  exact (Below.refl _ _).grown hg hB (fun g e => (ho.lt g e).1)
theorem MidI.keep {w w2 wq : World} {B k : Nat} {l : List Ix} {v : Value} (h : MidI w B w2 l v k wq) (hw : Below w.heap.size w w2) (hB : w.heap.size ≤ B) (hB2 : B ≤ w2.heap.size) : Below w.heap.size w wq := hw.trans ((h.below hB2).mono hB)
theorem MidB.below {w w2 wq : World} {B k : Nat} {l : List Bx} {v : Value} (h : MidB w B w2 l v k wq) (hB : B ≤ w2.heap.size) : Below B w2 wq := by
  obtain ⟨r, _, ho, _, hg⟩ := h
  exact (Below.refl _ _).grown hg hB (fun g e => (ho.lt g e).1)
theorem MidB.keep {w w2 wq : World} {B k : Nat} {l : List Bx} {v : Value} (h : MidB w B w2 l v k wq) (hw : Below w.heap.size w w2) (hB : w.heap.size ≤ B) (hB2 : B ≤ w2.heap.size) : Below w.heap.size w wq := hw.trans ((h.below hB2).mono hB)
theorem MidF.below {w w2 wq : World} {B k : Nat} {l : List Fx} {v : Value} (h : MidF w B w2 l v k wq) (hB : B ≤ w2.heap.size) : Below B w2 wq := by
  obtain ⟨r, _, ho, _, hg⟩ := h
  exact (Below.refl _ _).grown hg hB (fun g e => (ho.lt g e).1)
theorem MidF.keep {w w2 wq : World} {B k : Nat} {l : List Fx} {v : Value} (h : MidF w B w2 l v k wq) (hw : Below w.heap.size w w2) (hB : w.heap.size ≤ B) (hB2 : B ≤ w2.heap.size) : Below w.heap.size w wq := hw.trans ((h.below hB2).mono hB)
end Go.Proofs.YtaegidmodenomaaDoor.ShTM

namespace Go.Proofs.YtaegidmodenomaaDoor.ShTW
open Go.RowKit Go.Lib SetP IntO TyM TyP TyB TyW TyT ShM ShP ShA ShB ShE RwO ShTB ShTC ShTM RgZ Aft
open ShTP (FineP)

set_option maxRecDepth 100000 in
set_option maxHeartbeats 16000000 in
theorem twinC_calls (p : Px) (v : Value) (w : World) (hp : PrAt w v p) (hfine : FineP p) : Calls Tryd.prog 17 #[v] w (TwinP p w) := by
  obtain ⟨vt, vf, rfl, ht, hf⟩ := hp
  obtain ⟨W, hW⟩ : ∃ W, W = (w.alloc (.cells #[vt, vf] 29)).alloc (.cells #[.slice none 0 0, .slice none 0 0] 29) := ⟨_, rfl⟩
  have hbW : Below w.heap.size w W := by rw [hW]; exact (alloc_below _ _).alloc (by simp) _
  have hsW : W.heap.size = w.heap.size + 2 := by rw [hW]; simp only [World.size_alloc]
  have k1 : W.heap[w.heap.size]? = some (.cells #[vt, vf] 29 (0, 0)) := by rw [hW]; exact alloc_old (alloc_new _ _) _
  have k2 : W.heap[w.heap.size + 1]? = some (.cells #[.slice none 0 0, .slice none 0 0] 29 (0, 0)) := by
    rw [hW]
    have := alloc_new (w.alloc (.cells #[vt, vf] 29)) (.cells #[.slice none 0 0, .slice none 0 0] 29)
    rwa [World.size_alloc] at this
  have HTW := hid (TyT.twin_calls vt p.types W.drew (ht.below hbW.drew) (by have := hfine.types; omega) (fun x hx => by have := hfine.parts x hx; omega))
  have HFC := hid (fun wx (hx : Below w.heap.size w wx) => cloneF_calls vf p.funcs w wx hf hx (by have := hfine.funcs; omega))
  have HFI := hid hfine
  obtain ⟨ta, tc, rfl⟩ := ht.slice
  obtain ⟨fa, fc, rfl, hfl⟩ := hf.slice
  have l0 : ∀ w', Aft W w' → w'.cell? ⟨w.heap.size, 0, none⟩ = some (.slice ta p.types.length tc) := later_cells k1 0 _ rfl
  have l1 : ∀ w', Aft W w' → w'.cell? ⟨w.heap.size, 1, none⟩ = some (.slice fa p.funcs.length fc) := later_cells k1 1 _ rfl
  have HBW := hid hbW
  have HW := hid hW
  have HSW := hid hsW
  have HK1 := hid k1
  have HK2 := hid k2
  have HD := hid (Aft.refl W).drew
  clear ht hf hfine hbW hW hsW k1 k2
  go_enter Tryd.func17, Tryd.ntmps17
  go_upto_region 1 with fail
  rw [← HW.out]
  refine wp_region_noPanic ?_
  refine wp_region_Z (S := (fun w' => Aft W w')) (Z := [7, 9]) (by kernel_rfl) ?_ (fun hHeld => ?_)
  · (try dsimp only)
    (first | exact (HD.out.go HB3.out).go HB4.out | exact HD.out.go HB3.out | exact HD.out)
  refine wpAnyZ_takeP (i := 0) (oi := { dst := some 8, op := Go.Op.fieldAddr 29 (Go.Operand.tmp 1) 0, type := 0, pos := "shape.go:161", after := #[], guard := none }) (v := ?_) rfl (by kernel_rfl) (by kernel_rfl) (by kernel_rfl) (by kernel_rfl) (fun _ _ _ h => h) (Or.inl ⟨by rfl, ?_⟩) (fun _ => by assumption) ?_
  rotate_left
  · intro w hSw; (try dsimp only at hSw); go_simp; all_goals (try with_reducible rfl)
  try simp only [Act.put, List.setIfInBounds_toArray, List.set_cons_zero, List.set_cons_succ]
  refine wpAnyZ_take (i := 1) (oi := { dst := some 9, op := Go.Op.load 26 (Go.Operand.tmp 8), type := 26, pos := "shape.go:161", after := #[{ on := 0, ground := Go.Ground.data }], guard := none }) (v := ?_) rfl (by kernel_rfl) (by kernel_rfl) (by kernel_rfl) (by kernel_rfl) (by kernel_rfl) (fun _ _ _ h => h) (Or.inl ⟨by rfl, ?_⟩) (by assumption) ?_
  rotate_left
  · intro w hSw; (try dsimp only at hSw); go_simp; all_goals (try with_reducible rfl)
  try simp only [Act.put, List.setIfInBounds_toArray, List.set_cons_zero, List.set_cons_succ]
  refine wpAnyZ_takeP (i := 3) (oi := { dst := some 11, op := Go.Op.fieldAddr 29 (Go.Operand.tmp 1) 1, type := 0, pos := "shape.go:161", after := #[], guard := none }) (v := ?_) rfl (by kernel_rfl) (by kernel_rfl) (by kernel_rfl) (by kernel_rfl) (fun _ _ _ h => h) (Or.inl ⟨by rfl, ?_⟩) (fun _ => by assumption) ?_
  rotate_left
  · intro w hSw; (try dsimp only at hSw); go_simp; all_goals (try with_reducible rfl)
  try simp only [Act.put, List.setIfInBounds_toArray, List.set_cons_zero, List.set_cons_succ]
  refine wpAnyZ_take (i := 4) (oi := { dst := some 12, op := Go.Op.load 27 (Go.Operand.tmp 11), type := 27, pos := "shape.go:161", after := #[{ on := 3, ground := Go.Ground.data }], guard := none }) (v := ?_) rfl (by kernel_rfl) (by kernel_rfl) (by kernel_rfl) (by kernel_rfl) (by kernel_rfl) (fun _ _ _ h => h) (Or.inl ⟨by rfl, ?_⟩) (by assumption) ?_
  rotate_left
  · intro w hSw; (try dsimp only at hSw); go_simp; all_goals (try with_reducible rfl)
  try simp only [Act.put, List.setIfInBounds_toArray, List.set_cons_zero, List.set_cons_succ]
  refine wpAnyZ_ready (rs := [2]) (by kernel_rfl) (by simp) ?_
  refine AllReadyZ.cons (o := { dst := some 10, op := Go.Op.call { callee := Go.Callee.value (Go.Operand.func 42), args := #[Go.Operand.tmp 9], argTypes := #[26] }, type := 26, pos := "shape.go:161", after := #[{ on := 1, ground := Go.Ground.data }], guard := none }) rfl (fun K hK => ?_) ?_
  · go_simp
    (go_at_call 42; (with_reducible refine HTW.out.mono ?_); rintro e w3 ⟨ut, tr, rfl, htr, hot, hb3⟩; obtain ⟨uta, utc, rfl⟩ := own_form hot.1; have HO3 := hid hot; have HTR := hid htr; have HB3 := hid hb3; clear hot htr hb3 HTW)
    refine hK.out _ _ ?_ (fun hHeld => ?_)
    · (try dsimp only)
      (first | exact (HD.out.go HB3.out).go HB4.out | exact HD.out.go HB3.out | exact HD.out)
    clear hK K
    try simp only [Act.put, List.setIfInBounds_toArray, List.set_cons_zero, List.set_cons_succ]
    refine wpAnyZ_takeP (i := 6) (oi := { dst := some 14, op := Go.Op.fieldAddr 29 (Go.Operand.tmp 1) 0, type := 0, pos := "shape.go:161", after := #[{ on := 0, ground := Go.Ground.phase }, { on := 1, ground := Go.Ground.phase }, { on := 2, ground := Go.Ground.phase }, { on := 3, ground := Go.Ground.phase }, { on := 4, ground := Go.Ground.phase }, { on := 5, ground := Go.Ground.textOnly Go.Departure.lateStoresUnsure }], guard := none }) (v := ?_) rfl (by kernel_rfl) (by kernel_rfl) (by kernel_rfl) (by kernel_rfl) (fun _ _ _ h => h) (Or.inl ⟨by rfl, ?_⟩) (fun _ => by assumption) ?_
    rotate_left
    · intro w hSw; (try dsimp only at hSw); go_simp; all_goals (try with_reducible rfl)
    try simp only [Act.put, List.setIfInBounds_toArray, List.set_cons_zero, List.set_cons_succ]
    refine wpAnyZ_ready (rs := [5]) (by kernel_rfl) (by simp) ?_
    refine AllReadyZ.cons (o := { dst := some 13, op := Go.Op.call { callee := Go.Callee.value (Go.Operand.func 43), args := #[Go.Operand.tmp 12], argTypes := #[27] }, type := 27, pos := "shape.go:161", after := #[{ on := 4, ground := Go.Ground.data }, { on := 2, ground := Go.Ground.chain }], guard := none }) rfl (fun K hK => ?_) ?_
    · go_simp
      (go_at_call 43; (with_reducible refine (HFC.out w3 (by exact (HD.out.go HB3.out).out HBW.out)).mono ?_); rintro e w4 ⟨uf, fs, rfl, hfs, hof, hraw, hb4⟩; obtain ⟨ufa, ufc, rfl⟩ := own_form hof; have HO4 := hid hof; have HFS := hid hfs; have HRAW := hid hraw; have HB4 := hid hb4; clear hof hfs hraw hb4)
      refine hK.out _ _ ?_ (fun hHeld => ?_)
      · (try dsimp only)
        (first | exact (HD.out.go HB3.out).go HB4.out | exact HD.out.go HB3.out | exact HD.out)
      clear hK K
      try simp only [Act.put, List.setIfInBounds_toArray, List.set_cons_zero, List.set_cons_succ]
      refine wpAnyZ_ready (rs := [7]) (by kernel_rfl) (by simp) ?_
      refine AllReadyZ.last (o := { dst := none, op := Go.Op.store 26 (Go.Operand.tmp 14) (Go.Operand.tmp 10), type := 0, pos := "shape.go:161", after := #[{ on := 6, ground := Go.Ground.data }, { on := 2, ground := Go.Ground.data }, { on := 5, ground := Go.Ground.chain }, { on := 0, ground := Go.Ground.phase }, { on := 1, ground := Go.Ground.phase }, { on := 2, ground := Go.Ground.phase }, { on := 3, ground := Go.Ground.phase }, { on := 4, ground := Go.Ground.phase }, { on := 5, ground := Go.Ground.textOnly Go.Departure.lateStoresUnsure }], guard := none }) rfl (by kernel_rfl) (fun K hK => ?_) ?_
      · skip
        have hA4 := (HD.out.go HB3.out).go HB4.out
        have hbx4 := (hA4.block w.heap.size (by rw [HSW.out]; omega)).trans HK1.out
        have hrs4 := (hA4.block (w.heap.size + 1) (by rw [HSW.out]; omega)).trans HK2.out
        have hfl4 : fs.length = p.funcs.length := by rw [← HFS.out]; simp
        have hg5 := grown_set w4 w.heap.size 0 (.slice uta tr.length utc)
        have hx5 := set_heap' (i := 0) (.slice uta tr.length utc) hbx4
        have hg6 := grown_set (w4.setCell ⟨w.heap.size, 0, none⟩ (.slice uta tr.length utc)) w.heap.size 1 (.slice ufa fs.length ufc)
        have hx6 := set_heap' (i := 1) (.slice ufa fs.length ufc) hx5
        simp only [List.setIfInBounds_toArray, List.set_cons_zero, List.set_cons_succ] at hx5 hx6
        have hr5 : (w4.setCell ⟨w.heap.size, 0, none⟩ (.slice uta tr.length utc)).heap[w.heap.size + 1]? = _ := (hg5.block (w.heap.size + 1) (Array.getElem?_eq_some_iff.1 hrs4).1 (by simp)).trans hrs4
        have hr6 := (hg6.block (w.heap.size + 1) (Array.getElem?_eq_some_iff.1 hr5).1 (by simp)).trans hr5
        have hot6 := ((HO3.out.below HB4.out).other hg5 (typed_at hbx4) (by decide) (by decide)).other hg6 (typed_at hx5) (by decide) (by decide)
        have hof6 := owns_other (owns_other HO4.out hg5 (typed_at hbx4) (by decide)) hg6 (typed_at hx5) (by decide)
        have hsz4 : w.heap.size + 2 ≤ w4.heap.size := by have := hA4.size; have := HSW.out; omega
        have hb6 : Below w.heap.size w _ := ((hA4.out HBW.out).setCell (p := ⟨w.heap.size, 0, none⟩) (Nat.le_refl _) (.slice uta tr.length utc)).setCell (p := ⟨w.heap.size, 1, none⟩) (Nat.le_refl _) (.slice ufa fs.length ufc)
        have hd2 : w.heap.size + 2 ≤ W.drew.heap.size := by show _ ≤ W.heap.size; rw [HSW.out]; omega
        have hd3 : w.heap.size + 2 ≤ w3.heap.size := by have := HB3.out.size; omega
        have HOW5 : Hid (∃ w5, w5 = (w4.setCell ⟨w.heap.size, 0, none⟩ (.slice uta tr.length utc)).setCell ⟨w.heap.size, 1, none⟩ (.slice ufa p.funcs.length ufc) ∧ w5.heap[w.heap.size]? = some (.cells #[.slice uta tr.length utc, .slice ufa p.funcs.length ufc] 29 (0, 0)) ∧ w5.heap[w.heap.size + 1]? = some (.cells #[.slice none 0 0, .slice none 0 0] 29 (0, 0)) ∧ OwnT (w.heap.size + 2) (.slice uta tr.length utc) tr w5 ∧ MidF w (w.heap.size + 2) w5 p.funcs (.slice ufa p.funcs.length ufc) 0 w5 ∧ Below w.heap.size w w5 ∧ w.heap.size + 2 ≤ w5.heap.size ∧ (∀ g, (Value.slice ufa p.funcs.length ufc).ownBlock = some g → ∃ cs fr, w5.heap[g]? = some (.cells cs 33 fr))) := by
          rw [hfl4] at hx6 hr6 hot6 hof6 hb6
          exact ⟨_, rfl, hx6, hr6, hot6.base hd2, MidF.start HFS.out (by rw [hfl4]; exact owns_base hof6 hd3) HRAW.out, hb6, (by rw [size_set, size_set]; exact hsz4), own_typed hof6⟩
        have zz0 := (cells_heap hbx4).2 0
        have y0 := (cells_heap hbx4).1 0 (by simp)
        simp only [List.getElem_toArray, List.getElem_cons_zero] at y0
        have HX5 := hid hx5
        have HFL4 := hid hfl4
        clear hbx4 hrs4 hg5 hx5 hg6 hx6 hr5 hr6 hot6 hof6 hsz4 hb6 hd2 hd3 hfl4 hA4
        go_simp
        refine hK.out _ _ ?_
        clear hK K
        try simp only [Act.put, List.setIfInBounds_toArray, List.set_cons_zero, List.set_cons_succ]
        refine wpAnyZ_takeP (i := 8) (oi := { dst := some 15, op := Go.Op.fieldAddr 29 (Go.Operand.tmp 1) 1, type := 0, pos := "shape.go:161", after := #[{ on := 0, ground := Go.Ground.phase }, { on := 1, ground := Go.Ground.phase }, { on := 2, ground := Go.Ground.phase }, { on := 3, ground := Go.Ground.phase }, { on := 4, ground := Go.Ground.phase }, { on := 5, ground := Go.Ground.phase }, { on := 6, ground := Go.Ground.phase }, { on := 7, ground := Go.Ground.phase }], guard := none }) (v := ?_) rfl (by kernel_rfl) (by kernel_rfl) (by kernel_rfl) (by kernel_rfl) (fun _ _ _ h => h) (Or.inl ⟨by rfl, ?_⟩) (fun hu => absurd ((by kernel_rfl : unlistedB [7, 9] _ = false).symm.trans hu) (by decide)) ?_
        rotate_left
        · intro w hSw; (try dsimp only at hSw); go_simp; all_goals (try with_reducible rfl)
        try simp only [Act.put, List.setIfInBounds_toArray, List.set_cons_zero, List.set_cons_succ]
        refine wpAnyZ_ready (rs := [9]) (by kernel_rfl) (by simp) ?_
        refine AllReadyZ.last (o := { dst := none, op := Go.Op.store 27 (Go.Operand.tmp 15) (Go.Operand.tmp 13), type := 0, pos := "shape.go:161", after := #[{ on := 8, ground := Go.Ground.data }, { on := 5, ground := Go.Ground.data }, { on := 7, ground := Go.Ground.chain }, { on := 0, ground := Go.Ground.phase }, { on := 1, ground := Go.Ground.phase }, { on := 2, ground := Go.Ground.phase }, { on := 3, ground := Go.Ground.phase }, { on := 4, ground := Go.Ground.phase }, { on := 5, ground := Go.Ground.phase }, { on := 6, ground := Go.Ground.phase }, { on := 7, ground := Go.Ground.phase }], guard := none }) rfl (by kernel_rfl) (fun K hK => ?_) ?_
        · skip
          rw [HFL4.out]
          have zz1 := (cells_heap HX5.out).2 1
          have y1 := (cells_heap HX5.out).1 1 (by simp)
          simp only [List.getElem_toArray, List.getElem_cons_succ, List.getElem_cons_zero] at y1
          go_simp
          refine hK.out _ _ ?_
          clear hK K
          try simp only [Act.put, List.setIfInBounds_toArray, List.set_cons_zero, List.set_cons_succ]
          refine wpAnyZ_done (by kernel_rfl) ?_ _
          refine NoPanic.normal ?_
          have HO5 := HOW5.out
          clear HOW5
          obtain ⟨w5, hw5, hbox, hres, hot, hmf, hb5, hs5, hty⟩ := HO5
          have HTY := hid hty
          rw [← hw5]
          have HBOX := hid hbox
          have HRES := hid hres
          have HOT := hid hot
          have HB5 := hid hb5
          have HS5 := hid hs5
          have HMF := hid hmf
          clear hw5 hbox hres hot hmf hb5 hs5 hty HO4 HB3 HB4 HRAW HFS HO3 HK1 HK2 HFC HD hHeld
          have m1 := (cells_heap HBOX.out).1 1 (by simp)
          simp only [List.getElem_toArray, List.getElem_cons_succ, List.getElem_cons_zero] at m1
          clear l0 l1
          go_wp2_with fail
          clear m1
          go_loopg [19] p.funcs.length (fun gk i wr => ∃ k : Nat, k + gk = p.funcs.length ∧ i = .int .i64 k ∧ MidF w (w.heap.size + 2) w5 p.funcs (.slice ufa p.funcs.length ufc) k wr)
          case atStart => exact ⟨0, by omega, rfl, HMF.out⟩
          case round =>
            clear HMF
            obtain ⟨k, hk, rfl, hmid⟩ := hrel
            have HK := hid hk
            have HM := hid hmid
            have hbf := hmid.below (by have := HS5.out; omega)
            have hbr := hmid.keep HB5.out (by omega) (by have := HS5.out; omega)
            have hbox := (hbf.block w.heap.size (by omega)).trans HBOX.out
            have hnb := (cells_heap hbox).1
            have m0 := hnb 0 (by simp); have m1 := hnb 1 (by simp)
            simp only [List.getElem_toArray, List.getElem_cons_succ, List.getElem_cons_zero] at m0 m1
            have HBR := hid hbr
            have HBF := hid hbf
            have hn0 : w.heap.size < wr.heap.size := (Array.getElem?_eq_some_iff.1 hbox).1
            have HHB := hid hbox
            clear hnb hbf hbr hbox
            by_cases hlt : k < p.funcs.length
            rotate_left
            · obtain rfl : k = p.funcs.length := by omega
              obtain ⟨fs, hfs, hof, hgr⟩ := hmid.done
              have hres := (HBF.out.block (w.heap.size + 1) (by omega)).trans HRES.out
              have HOTr := hid (HOT.out.other hgr HTY.out (by decide) (by decide))
              obtain ⟨_, z0⟩ := cells_heap hres
              have zz0 := z0 0
              have zz1 := z0 1
              have hg0 := grown_set wr (w.heap.size + 1) 0 (.slice uta tr.length utc)
              have hz3 := set_heap' (i := 0) (.slice uta tr.length utc) hres
              have hg1 := grown_set (wr.setCell ⟨w.heap.size + 1, 0, none⟩ (.slice uta tr.length utc)) (w.heap.size + 1) 1 (.slice ufa p.funcs.length ufc)
              have HFIN : Hid (OwnPr w.heap.size ((wr.setCell ⟨w.heap.size + 1, 0, none⟩ (.slice uta tr.length utc)).setCell ⟨w.heap.size + 1, 1, none⟩ (.slice ufa p.funcs.length ufc)) (.agg #[.slice uta tr.length utc, .slice ufa p.funcs.length ufc]) p) :=
                ⟨_, _, tr, fs, rfl, ((HOTr.out.base (by omega)).other hg0 (typed_at hres) (by decide) (by decide)).other hg1 (typed_at hz3) (by decide) (by decide), HTR.out,
                  ((hof.base (by omega)).other hg0 (typed_at hres) (by decide) (by decide) (by decide) (by decide)).other hg1 (typed_at hz3) (by decide) (by decide) (by decide) (by decide), hfs⟩
              have HBX := hid ((HBR.out.setCell (p := ⟨w.heap.size + 1, 0, none⟩) (by show w.heap.size ≤ _ + 1; omega) (.slice uta tr.length utc)).setCell (p := ⟨w.heap.size + 1, 1, none⟩) (by show w.heap.size ≤ _ + 1; omega) (.slice ufa p.funcs.length ufc))
              have hz4 := set_heap' (i := 1) (.slice ufa p.funcs.length ufc) hz3
              simp only [List.setIfInBounds_toArray, List.set_cons_zero, List.set_cons_succ] at hz3 hz4
              have x0 := (cells_heap hz3).1 0 (by simp)
              have x1 := (cells_heap hz4).1 1 (by simp)
              simp only [List.getElem_toArray, List.getElem_cons_succ, List.getElem_cons_zero] at x0 x1
              clear hz4 hfs hof hgr hk hres z0 hg0 hg1 hz3 HOTr HBR HTR HOT HBF HHB HK HM hmid hlt HRES HBOX
              generalize p.funcs.length = nl at *
              go_wp2
              (try simp only [Exit.inBlock, Exit.then])
              refine bodyPost_ret (by simp [results, Tryd.results17, go_sem, x0, x1]; try rfl) rfl ?_
              exact ⟨_, rfl, HFIN.out, HBX.out⟩
            obtain ⟨g, gcap, vb, hfe, hgB, hgs, ⟨gcs, hgh⟩, c1, hbl⟩ := hmid.cells hlt
            have hfe2 : ufa = some ⟨g, 0, none⟩ ∧ ufc = gcap := by simpa using hfe
            obtain ⟨rfl, rfl⟩ := hfe2
            have hxb := HFI.out.blocks _ (List.getElem_mem hlt)
            have HCB := hid (cloneB_calls vb p.funcs[k].blocks w wr hbl HBR.out (by have := hxb.1; omega))
            have HXB := hid hxb.2
            have HST := hid (fun w1 wq m vl xs (hb : Below wr.heap.size wr w1) ho hm => MidF.step (w1 := w1) (wq := wq) (m := m) (vb := vl) (xs := xs) HM.out hlt (by have := HBF.out.size; have := HS5.out; omega) hb ho hm)
            obtain ⟨ba, bc, rfl, hbll⟩ := hbl.slice
            have HGH := hid hgh
            have HGS : Hid (g < wr.heap.size) := hgs
            have HC1 := hid c1
            have hlk : (k : Int) < p.funcs.length := by omega
            clear hmid hfe hgh hgs hxb hbl hk HM
            generalize p.funcs[k] = y at *
            go_wp2_with fail
            refine HCB.out.mono ?_
            rintro e w6 ⟨ul, bs, rfl, hbs, hol, hraw, hb6⟩
            obtain ⟨ula, ulc, rfl⟩ := own_form hol
            have hbl : bs.length = y.blocks.length := by rw [← hbs]; simp
            have hmb : MidB w wr.heap.size w6 y.blocks (.slice ula bs.length ulc) 0 w6 := MidB.start hbs hol hraw
            rw [hbl] at hmb hol ⊢
            have HMB := hid hmb
            have HOL := hid hol
            have HB6 := hid hb6
            have HBW6 := hid (HBR.out.trans (hb6.mono HBR.out.size))
            clear hbs hol hraw hb6 hmb hbl HCB c1 m0 m1
            obtain ⟨wo, hwo⟩ : ∃ wo : World, wo = wr := ⟨wr, rfl⟩
            subst hwo
            obtain ⟨go, hgo⟩ : ∃ go : Nat, go = gk := ⟨gk, rfl⟩
            subst hgo
            go_wp2_with fail
            go_loopg [31] y.blocks.length (fun gq q wq => ∃ j : Nat, j + gq = y.blocks.length ∧ q = .int .i64 j ∧ MidB w wo.heap.size w6 y.blocks (.slice ula y.blocks.length ulc) j wq)
            case atStart => exact ⟨0, by omega, rfl, HMB.out⟩
            case round =>
              clear HMB
              obtain ⟨j, hj, rfl, hmb⟩ := hrel
              have HJ := hid hj
              have HM := hid hmb
              have hbq := hmb.below HB6.out.size
              have hbwq := hmb.keep HBW6.out HBR.out.size HB6.out.size
              have HBQ := hid hbq
              have HBWQ := hid hbwq
              have hszq : wo.heap.size ≤ wr.heap.size := by have := hbq.size; have := HB6.out.size; omega
              by_cases hltj : j < y.blocks.length
              rotate_left
              · obtain rfl : j = y.blocks.length := by omega
                obtain ⟨hfin, hbfq⟩ := HST.out w6 wr _ _ _ HB6.out HOL.out hmb
                have hbx := (hbfq.block w.heap.size hn0).trans HHB.out
                have hnb := (cells_heap hbx).1
                have m1 := hnb 1 (by simp)
                simp only [List.getElem_toArray, List.getElem_cons_succ, List.getElem_cons_zero] at m1
                have hgq := (hbfq.block g HGS.out).trans HGH.out
                have zz := (cells_heap hgq).2 (k * 2 + 1)
                have c1 := (hbfq.cell (p := ⟨g, k * 2 + 1, none⟩) HGS.out).trans HC1.out
                have HFIN := hid hfin
                clear hfin hbfq hbx hnb hgq hmb hbq hbwq HST HM HBQ HBWQ hj HOL HHB HBOX
                go_wp2
                go_roundg (go - 1)
                case measure => have := HK.out; omega
                case rel => exact ⟨k + 1, by have := HK.out; omega, by go_num, HFIN.out⟩
              obtain ⟨h, hcap, vi, hle, hhB, hhs, ⟨hcs, hhh⟩, d0, hin⟩ := hmb.cells hltj
              have hle2 : ula = some ⟨h, 0, none⟩ ∧ ulc = hcap := by simpa using hle
              obtain ⟨rfl, rfl⟩ := hle2
              have hxi := HXB.out _ (List.getElem_mem hltj)
              have HCI := hid (cloneI_calls vi y.blocks[j].ins w wr hin hbwq (by have := hxi.1; omega))
              have HXI := hid hxi.2
              have HSB := hid (fun w1 wq m vi xs (hb : Below wr.heap.size wr w1) ho hm => MidB.step (w1 := w1) (wq := wq) (m := m) (vi := vi) (xs := xs) HM.out hltj hszq hb ho hm)
              obtain ⟨ia, ic, rfl, hill⟩ := hin.slice
              have HHH := hid hhh
              have HHS : Hid (h < wr.heap.size) := hhs
              have HD0 := hid d0
              have hlj : (j : Int) < y.blocks.length := by omega
              clear hmb hle hhh hhs hxi hin hj HM hbq
              generalize y.blocks[j] = x at *
              go_wp2_with fail
              refine HCI.out.mono ?_
              rintro e w7 ⟨ui, is, rfl, his, hoi, hraw, hb7⟩
              obtain ⟨uia, uic, rfl⟩ := own_form hoi
              have hil : is.length = x.ins.length := by rw [← his]; simp
              have hh7 := (hb7.block h HHS.out).trans HHH.out
              have zz := (cells_heap hh7).2 (j * 5)
              have d7 := (hb7.cell (p := ⟨h, j * 5, none⟩) HHS.out).trans HD0.out
              have hg8 := grown_set w7 h (j * 5) (.slice uia is.length uic)
              have hh8 := set_heap' (i := j * 5) (.slice uia is.length uic) hh7
              have ho8 := owns_other hoi hg8 (typed_at hh7) (by decide)
              have hmi : MidI w wr.heap.size (w7.setCell ⟨h, j * 5, none⟩ (.slice uia is.length uic)) x.ins (.slice uia is.length uic) 0 (w7.setCell ⟨h, j * 5, none⟩ (.slice uia is.length uic)) := MidI.start his ho8 hraw
              rw [hil] at hmi hoi hg8 hh8 ho8 ⊢
              obtain ⟨w8, hw8⟩ : ∃ w8, w8 = w7.setCell ⟨h, j * 5, none⟩ (.slice uia x.ins.length uic) := ⟨_, rfl⟩
              have hjc : j * 5 < hcs.size := by
                unfold World.cell? at d7
                rw [hh7] at d7
                exact (Array.getElem?_eq_some_iff.1 d7).1
              have d8 : w8.cell? ⟨h, j * 5, none⟩ = some (.slice uia x.ins.length uic) := by rw [hw8]; unfold World.cell?; rw [hh8]; simp [hjc]
              have hs8 : w8.heap.size = w7.heap.size := by rw [hw8]; exact size_set _ _ _
              have HMI : Hid (MidI w wr.heap.size w8 x.ins (.slice uia x.ins.length uic) 0 w8) := by show MidI _ _ _ _ _ _ _; rw [hw8]; exact hmi
              have HW8 := hid hw8
              have HOI := hid hoi
              have HB7 := hid hb7
              have HS8 : Hid (wr.heap.size ≤ w8.heap.size) := by have := hb7.size; show _ ≤ _; omega
              have HBW8 : Hid (Below w.heap.size w w8) := by
                show Below _ _ _
                rw [hw8]
                exact (hbwq.trans (hb7.mono hbwq.size)).setCell (p := ⟨h, j * 5, none⟩) (by show w.heap.size ≤ h; have := hn0; omega) _
              have HD8 := hid d8
              have HH8 : Hid (h < w8.heap.size) := by show _ < _; have := HHS.out; have := HS8.out; omega
              clear his hoi hraw hb7 hmi hil hh7 hg8 hh8 ho8 hjc hs8 HCI
              go_upto_region 10 with fail
              rw [← HW8.out]
              clear d7 zz hw8 d0 hbwq
              obtain ⟨wp, hwp⟩ : ∃ wp : World, wp = wr := ⟨wr, rfl⟩
              subst hwp
              obtain ⟨gp, hgp⟩ : ∃ gp : Nat, gp = gk := ⟨gk, rfl⟩
              subst hgp
              go_wp2_with fail
              clear d8
              go_loopg [50] x.ins.length (fun gq q wq => ∃ n : Nat, n + gq = x.ins.length ∧ q = .int .i64 n ∧ MidI w wp.heap.size w8 x.ins (.slice uia x.ins.length uic) n wq)
              case atStart => exact ⟨0, by omega, rfl, HMI.out⟩
              case round =>
                clear HMI
                obtain ⟨n, hn, rfl, hmi⟩ := hrel
                have HN := hid hn
                have HMJ := hid hmi
                have hbz := hmi.below HS8.out
                have hbwz := hmi.keep HBW8.out (by have := HBWQ.out.size; omega) HS8.out
                by_cases hltn : n < x.ins.length
                rotate_left
                · obtain rfl : n = x.ins.length := by omega
                  have HFIN := hid (HSB.out w7 wr _ _ _ HB7.out HOI.out (by rw [← HW8.out]; exact hmi))
                  clear hmi hbz hbwz HMJ HSB HOI HB7 hn
                  go_wp2
                  go_roundg (gp - 1)
                  case measure => have := HJ.out; omega
                  case rel => exact ⟨j + 1, by have := HJ.out; omega, by go_num, HFIN.out⟩
                obtain ⟨q, qcap, va, vf, hie, hqB, hqs, ⟨qcs, hqh⟩, e5, e6, ha, hff⟩ := hmi.cells hltn
                have hie2 : uia = some ⟨q, 0, none⟩ ∧ uic = qcap := by simpa using hie
                obtain ⟨rfl, rfl⟩ := hie2
                have hxn := HXI.out _ (List.getElem_mem hltn)
                have HSI := hid (fun w4 m1 m2 u1 u2 hb h1 h2 => MidI.step (w4 := w4) (m1 := m1) (m2 := m2) (u1 := u1) (u2 := u2) HMJ.out hltn (by have := hbz.size; have := HS8.out; omega) hb h1 h2)
                have d0 := (hbz.cell (p := ⟨h, j * 5, none⟩) HHS.out).trans HD8.out
                have HC1I := hid (cloneInts_calls va x.ins[n].args wr.drew (ha.below hbwz.drew) hxn.1)
                have HC2I := hid (fun wx (hx : Aft wr wx) => cloneInts_calls vf x.ins[n].frm wx (hff.below (hx.out hbwz)) hxn.2)
                obtain ⟨aa, ac, rfl, _⟩ := ints_slice ha
                obtain ⟨fa2, fc2, rfl, _⟩ := ints_slice hff
                have c5 := later e5
                have c6 := later e6
                have HQH := hid hqh
                have HQS : Hid (q < wr.heap.size) := hqs
                have hln : (n : Int) < x.ins.length := by omega
                have h0 := Aft.refl wr
                have HDR := hid h0.drew
                clear hmi hie hqh hqs hxn ha hff hn HMJ hbz hbwz e5 e6
                generalize x.ins[n] = z at *
                generalize z.args.length = la at *
                generalize z.frm.length = lf at *
                go_upto_region 14 with fail
                refine wp_region_noPanic ?_
                refine wp_region_Z (S := (fun w' => Aft wr w')) (Z := [14, 17]) (by kernel_rfl) ?_ (fun hHeld => ?_)
                · (try dsimp only)
                  (first | exact (HDR.out.go hb9).go hb10 | exact HDR.out.go hb9 | exact HDR.out)
                refine wpAnyZ_takeP (i := 0) (oi := { dst := some 60, op := Go.Op.move (Go.Operand.tmp 7), type := 77, pos := "shape.go:168", after := #[], guard := none }) (v := ?_) rfl (by kernel_rfl) (by kernel_rfl) (by kernel_rfl) (by kernel_rfl) (fun _ _ _ h => h) (Or.inl ⟨by rfl, ?_⟩) (fun _ => by assumption) ?_
                rotate_left
                · intro w hSw; (try dsimp only at hSw); go_simp; all_goals (try with_reducible rfl)
                try simp only [Act.put, List.setIfInBounds_toArray, List.set_cons_zero, List.set_cons_succ]
                refine wpAnyZ_takeP (i := 1) (oi := { dst := some 61, op := Go.Op.move (Go.Operand.tmp 7), type := 77, pos := "shape.go:168", after := #[{ on := 14, ground := Go.Ground.gcOnly Go.Departure.lateStores }], guard := none }) (v := ?_) rfl (by kernel_rfl) (by kernel_rfl) (by kernel_rfl) (by kernel_rfl) (fun _ _ _ h => h) (Or.inl ⟨by rfl, ?_⟩) (fun _ => by assumption) ?_
                rotate_left
                · intro w hSw; (try dsimp only at hSw); go_simp; all_goals (try with_reducible rfl)
                try simp only [Act.put, List.setIfInBounds_toArray, List.set_cons_zero, List.set_cons_succ]
                refine wpAnyZ_takeP (i := 2) (oi := { dst := some 62, op := Go.Op.move (Go.Operand.tmp 7), type := 77, pos := "shape.go:168", after := #[], guard := none }) (v := ?_) rfl (by kernel_rfl) (by kernel_rfl) (by kernel_rfl) (by kernel_rfl) (fun _ _ _ h => h) (Or.inl ⟨by rfl, ?_⟩) (fun _ => by assumption) ?_
                rotate_left
                · intro w hSw; (try dsimp only at hSw); go_simp; all_goals (try with_reducible rfl)
                try simp only [Act.put, List.setIfInBounds_toArray, List.set_cons_zero, List.set_cons_succ]
                refine wpAnyZ_takeP (i := 3) (oi := { dst := some 63, op := Go.Op.nilCheck (Go.Operand.tmp 62), type := 0, pos := "shape.go:168", after := #[{ on := 2, ground := Go.Ground.data }], guard := none }) (v := ?_) rfl (by kernel_rfl) (by kernel_rfl) (by kernel_rfl) (by kernel_rfl) (fun _ _ _ h => h) (Or.inl ⟨by rfl, ?_⟩) (fun _ => by assumption) ?_
                rotate_left
                · intro w hSw; (try dsimp only at hSw); go_simp; all_goals (try with_reducible rfl)
                try simp only [Act.put, List.setIfInBounds_toArray, List.set_cons_zero, List.set_cons_succ]
                refine wpAnyZ_takeP (i := 4) (oi := { dst := some 64, op := Go.Op.fieldAddr 25 (Go.Operand.tmp 63) 5, type := 0, pos := "shape.go:168", after := #[{ on := 3, ground := Go.Ground.data }], guard := none }) (v := ?_) rfl (by kernel_rfl) (by kernel_rfl) (by kernel_rfl) (by kernel_rfl) (fun _ _ _ h => h) (Or.inl ⟨by rfl, ?_⟩) (fun _ => by assumption) ?_
                rotate_left
                · intro w hSw; (try dsimp only at hSw); go_simp; all_goals (try with_reducible rfl)
                try simp only [Act.put, List.setIfInBounds_toArray, List.set_cons_zero, List.set_cons_succ]
                refine wpAnyZ_take (i := 5) (oi := { dst := some 65, op := Go.Op.load 23 (Go.Operand.tmp 64), type := 23, pos := "shape.go:168", after := #[{ on := 4, ground := Go.Ground.data }], guard := none }) (v := ?_) rfl (by kernel_rfl) (by kernel_rfl) (by kernel_rfl) (by kernel_rfl) (by kernel_rfl) (fun _ _ _ h => h) (Or.inl ⟨by rfl, ?_⟩) (by assumption) ?_
                rotate_left
                · intro w hSw; (try dsimp only at hSw); go_simp; all_goals (try with_reducible rfl)
                try simp only [Act.put, List.setIfInBounds_toArray, List.set_cons_zero, List.set_cons_succ]
                refine wpAnyZ_takeP (i := 7) (oi := { dst := some 67, op := Go.Op.move (Go.Operand.tmp 7), type := 77, pos := "shape.go:168", after := #[], guard := none }) (v := ?_) rfl (by kernel_rfl) (by kernel_rfl) (by kernel_rfl) (by kernel_rfl) (fun _ _ _ h => h) (Or.inl ⟨by rfl, ?_⟩) (fun _ => by assumption) ?_
                rotate_left
                · intro w hSw; (try dsimp only at hSw); go_simp; all_goals (try with_reducible rfl)
                try simp only [Act.put, List.setIfInBounds_toArray, List.set_cons_zero, List.set_cons_succ]
                refine wpAnyZ_takeP (i := 8) (oi := { dst := some 68, op := Go.Op.nilCheck (Go.Operand.tmp 67), type := 0, pos := "shape.go:168", after := #[{ on := 7, ground := Go.Ground.data }], guard := none }) (v := ?_) rfl (by kernel_rfl) (by kernel_rfl) (by kernel_rfl) (by kernel_rfl) (fun _ _ _ h => h) (Or.inl ⟨by rfl, ?_⟩) (fun _ => by assumption) ?_
                rotate_left
                · intro w hSw; (try dsimp only at hSw); go_simp; all_goals (try with_reducible rfl)
                try simp only [Act.put, List.setIfInBounds_toArray, List.set_cons_zero, List.set_cons_succ]
                refine wpAnyZ_takeP (i := 9) (oi := { dst := some 69, op := Go.Op.fieldAddr 25 (Go.Operand.tmp 68) 6, type := 0, pos := "shape.go:168", after := #[{ on := 8, ground := Go.Ground.data }], guard := none }) (v := ?_) rfl (by kernel_rfl) (by kernel_rfl) (by kernel_rfl) (by kernel_rfl) (fun _ _ _ h => h) (Or.inl ⟨by rfl, ?_⟩) (fun _ => by assumption) ?_
                rotate_left
                · intro w hSw; (try dsimp only at hSw); go_simp; all_goals (try with_reducible rfl)
                try simp only [Act.put, List.setIfInBounds_toArray, List.set_cons_zero, List.set_cons_succ]
                refine wpAnyZ_take (i := 10) (oi := { dst := some 70, op := Go.Op.load 23 (Go.Operand.tmp 69), type := 23, pos := "shape.go:168", after := #[{ on := 9, ground := Go.Ground.data }], guard := none }) (v := ?_) rfl (by kernel_rfl) (by kernel_rfl) (by kernel_rfl) (by kernel_rfl) (by kernel_rfl) (fun _ _ _ h => h) (Or.inl ⟨by rfl, ?_⟩) (by assumption) ?_
                rotate_left
                · intro w hSw; (try dsimp only at hSw); go_simp; all_goals (try with_reducible rfl)
                try simp only [Act.put, List.setIfInBounds_toArray, List.set_cons_zero, List.set_cons_succ]
                refine wpAnyZ_ready (rs := [6]) (by kernel_rfl) (by simp) ?_
                refine AllReadyZ.cons (o := { dst := some 66, op := Go.Op.call { callee := Go.Callee.value (Go.Operand.func 46), args := #[Go.Operand.tmp 65], argTypes := #[23] }, type := 23, pos := "shape.go:168", after := #[{ on := 5, ground := Go.Ground.data }], guard := none }) rfl (fun K hK => ?_) ?_
                · go_simp
                  (go_at_call 46; (with_reducible refine HC1I.out.mono ?_); rintro e w9 ⟨u1, m1, rfl, ho1, hb9⟩; obtain ⟨u1a, u1c, rfl⟩ := own_form ho1)
                  refine hK.out _ _ ?_ (fun hHeld => ?_)
                  · (try dsimp only)
                    (first | exact (HDR.out.go hb9).go hb10 | exact HDR.out.go hb9 | exact HDR.out)
                  clear hK K
                  try simp only [Act.put, List.setIfInBounds_toArray, List.set_cons_zero, List.set_cons_succ]
                  refine wpAnyZ_ready (rs := [11]) (by kernel_rfl) (by simp) ?_
                  refine AllReadyZ.cons (o := { dst := some 71, op := Go.Op.call { callee := Go.Callee.value (Go.Operand.func 46), args := #[Go.Operand.tmp 70], argTypes := #[23] }, type := 23, pos := "shape.go:168", after := #[{ on := 10, ground := Go.Ground.data }, { on := 6, ground := Go.Ground.chain }], guard := none }) rfl (fun K hK => ?_) ?_
                  · go_simp
                    (go_at_call 46; (with_reducible refine (HC2I.out w9 (HDR.out.go hb9)).mono ?_); rintro e w10 ⟨u2, m2, rfl, ho2, hb10⟩; obtain ⟨u2a, u2c, rfl⟩ := own_form ho2)
                    refine hK.out _ _ ?_ (fun hHeld => ?_)
                    · (try dsimp only)
                      (first | exact (HDR.out.go hb9).go hb10 | exact HDR.out.go hb9 | exact HDR.out)
                    clear hK K
                    try simp only [Act.put, List.setIfInBounds_toArray, List.set_cons_zero, List.set_cons_succ]
                    refine wpAnyZ_takeP (i := 12) (oi := { dst := some 72, op := Go.Op.nilCheck (Go.Operand.tmp 60), type := 0, pos := "shape.go:168", after := #[{ on := 0, ground := Go.Ground.data }, { on := 0, ground := Go.Ground.phase }, { on := 1, ground := Go.Ground.textOnly Go.Departure.lateStores }, { on := 2, ground := Go.Ground.phase }, { on := 3, ground := Go.Ground.phase }, { on := 4, ground := Go.Ground.phase }, { on := 5, ground := Go.Ground.phase }, { on := 6, ground := Go.Ground.phase }, { on := 7, ground := Go.Ground.textOnly Go.Departure.lateStores }, { on := 8, ground := Go.Ground.textOnly Go.Departure.lateStoresUnsure }, { on := 9, ground := Go.Ground.textOnly Go.Departure.lateStoresUnsure }, { on := 10, ground := Go.Ground.phase }, { on := 11, ground := Go.Ground.phase }], guard := none }) (v := ?_) rfl (by kernel_rfl) (by kernel_rfl) (by kernel_rfl) (by kernel_rfl) (fun _ _ _ h => h) (Or.inl ⟨by rfl, ?_⟩) (fun _ => by assumption) ?_
                    rotate_left
                    · intro w hSw; (try dsimp only at hSw); go_simp; all_goals (try with_reducible rfl)
                    try simp only [Act.put, List.setIfInBounds_toArray, List.set_cons_zero, List.set_cons_succ]
                    refine wpAnyZ_takeP (i := 13) (oi := { dst := some 73, op := Go.Op.fieldAddr 25 (Go.Operand.tmp 72) 5, type := 0, pos := "shape.go:168", after := #[{ on := 12, ground := Go.Ground.data }, { on := 0, ground := Go.Ground.phase }, { on := 1, ground := Go.Ground.textOnly Go.Departure.lateStores }, { on := 2, ground := Go.Ground.phase }, { on := 3, ground := Go.Ground.phase }, { on := 4, ground := Go.Ground.phase }, { on := 5, ground := Go.Ground.phase }, { on := 6, ground := Go.Ground.phase }, { on := 7, ground := Go.Ground.textOnly Go.Departure.lateStores }, { on := 8, ground := Go.Ground.textOnly Go.Departure.lateStoresUnsure }, { on := 9, ground := Go.Ground.textOnly Go.Departure.lateStoresUnsure }, { on := 10, ground := Go.Ground.phase }, { on := 11, ground := Go.Ground.phase }], guard := none }) (v := ?_) rfl (by kernel_rfl) (by kernel_rfl) (by kernel_rfl) (by kernel_rfl) (fun _ _ _ h => h) (Or.inl ⟨by rfl, ?_⟩) (fun _ => by assumption) ?_
                    rotate_left
                    · intro w hSw; (try dsimp only at hSw); go_simp; all_goals (try with_reducible rfl)
                    try simp only [Act.put, List.setIfInBounds_toArray, List.set_cons_zero, List.set_cons_succ]
                    refine wpAnyZ_ready (rs := [14]) (by kernel_rfl) (by simp) ?_
                    refine AllReadyZ.last (o := { dst := none, op := Go.Op.store 23 (Go.Operand.tmp 73) (Go.Operand.tmp 66), type := 0, pos := "shape.go:168", after := #[{ on := 13, ground := Go.Ground.data }, { on := 6, ground := Go.Ground.data }, { on := 11, ground := Go.Ground.chain }, { on := 0, ground := Go.Ground.phase }, { on := 1, ground := Go.Ground.textOnly Go.Departure.lateStores }, { on := 2, ground := Go.Ground.phase }, { on := 3, ground := Go.Ground.phase }, { on := 4, ground := Go.Ground.phase }, { on := 5, ground := Go.Ground.phase }, { on := 6, ground := Go.Ground.phase }, { on := 7, ground := Go.Ground.textOnly Go.Departure.lateStores }, { on := 8, ground := Go.Ground.textOnly Go.Departure.lateStoresUnsure }, { on := 9, ground := Go.Ground.textOnly Go.Departure.lateStoresUnsure }, { on := 10, ground := Go.Ground.phase }, { on := 11, ground := Go.Ground.phase }], guard := none }) rfl (by kernel_rfl) (fun K hK => ?_) ?_
                    · skip
                      have hA10 := (HDR.out.go hb9).go hb10
                      have hq10 := (hA10.below.block q HQS.out).trans HQH.out
                      have zz5 := (cells_heap hq10).2 (n * 7 + 5)
                      have y5 := c5 w10 hA10
                      have hq11 := set_heap' (i := n * 7 + 5) (.slice u1a m1 u1c) hq10
                      have zz6 := (cells_heap hq11).2 (n * 7 + 6)
                      have HFIN := hid (HSI.out w10 m1 m2 _ _ hA10.below (owns_base (ownsRow_below ho1 hb10) (by exact Nat.le_refl _)) (owns_base ho2 (by have := (HDR.out.go hb9).size; omega)))
                      have HZ6 := hid zz6
                      clear hq10 hq11 zz6 ho1 ho2
                      go_simp
                      refine hK.out _ _ ?_
                      clear hK K
                      try simp only [Act.put, List.setIfInBounds_toArray, List.set_cons_zero, List.set_cons_succ]
                      refine wpAnyZ_takeP (i := 15) (oi := { dst := some 74, op := Go.Op.nilCheck (Go.Operand.tmp 61), type := 0, pos := "shape.go:168", after := #[{ on := 1, ground := Go.Ground.data }, { on := 0, ground := Go.Ground.phase }, { on := 1, ground := Go.Ground.phase }, { on := 2, ground := Go.Ground.phase }, { on := 3, ground := Go.Ground.phase }, { on := 4, ground := Go.Ground.phase }, { on := 5, ground := Go.Ground.phase }, { on := 6, ground := Go.Ground.phase }, { on := 7, ground := Go.Ground.phase }, { on := 8, ground := Go.Ground.phase }, { on := 9, ground := Go.Ground.phase }, { on := 10, ground := Go.Ground.phase }, { on := 11, ground := Go.Ground.phase }, { on := 12, ground := Go.Ground.phase }, { on := 13, ground := Go.Ground.phase }, { on := 14, ground := Go.Ground.phase }], guard := none }) (v := ?_) rfl (by kernel_rfl) (by kernel_rfl) (by kernel_rfl) (by kernel_rfl) (fun _ _ _ h => h) (Or.inl ⟨by rfl, ?_⟩) (fun hu => absurd ((by kernel_rfl : unlistedB [14, 17] _ = false).symm.trans hu) (by decide)) ?_
                      rotate_left
                      · intro w hSw; (try dsimp only at hSw); go_simp; all_goals (try with_reducible rfl)
                      try simp only [Act.put, List.setIfInBounds_toArray, List.set_cons_zero, List.set_cons_succ]
                      refine wpAnyZ_takeP (i := 16) (oi := { dst := some 75, op := Go.Op.fieldAddr 25 (Go.Operand.tmp 74) 6, type := 0, pos := "shape.go:168", after := #[{ on := 15, ground := Go.Ground.data }, { on := 0, ground := Go.Ground.phase }, { on := 1, ground := Go.Ground.phase }, { on := 2, ground := Go.Ground.phase }, { on := 3, ground := Go.Ground.phase }, { on := 4, ground := Go.Ground.phase }, { on := 5, ground := Go.Ground.phase }, { on := 6, ground := Go.Ground.phase }, { on := 7, ground := Go.Ground.phase }, { on := 8, ground := Go.Ground.phase }, { on := 9, ground := Go.Ground.phase }, { on := 10, ground := Go.Ground.phase }, { on := 11, ground := Go.Ground.phase }, { on := 12, ground := Go.Ground.phase }, { on := 13, ground := Go.Ground.phase }, { on := 14, ground := Go.Ground.phase }], guard := none }) (v := ?_) rfl (by kernel_rfl) (by kernel_rfl) (by kernel_rfl) (by kernel_rfl) (fun _ _ _ h => h) (Or.inl ⟨by rfl, ?_⟩) (fun hu => absurd ((by kernel_rfl : unlistedB [14, 17] _ = false).symm.trans hu) (by decide)) ?_
                      rotate_left
                      · intro w hSw; (try dsimp only at hSw); go_simp; all_goals (try with_reducible rfl)
                      try simp only [Act.put, List.setIfInBounds_toArray, List.set_cons_zero, List.set_cons_succ]
                      refine wpAnyZ_ready (rs := [17]) (by kernel_rfl) (by simp) ?_
                      refine AllReadyZ.last (o := { dst := none, op := Go.Op.store 23 (Go.Operand.tmp 75) (Go.Operand.tmp 71), type := 0, pos := "shape.go:168", after := #[{ on := 16, ground := Go.Ground.data }, { on := 11, ground := Go.Ground.data }, { on := 14, ground := Go.Ground.chain }, { on := 0, ground := Go.Ground.phase }, { on := 1, ground := Go.Ground.phase }, { on := 2, ground := Go.Ground.phase }, { on := 3, ground := Go.Ground.phase }, { on := 4, ground := Go.Ground.phase }, { on := 5, ground := Go.Ground.phase }, { on := 6, ground := Go.Ground.phase }, { on := 7, ground := Go.Ground.phase }, { on := 8, ground := Go.Ground.phase }, { on := 9, ground := Go.Ground.phase }, { on := 10, ground := Go.Ground.phase }, { on := 11, ground := Go.Ground.phase }, { on := 12, ground := Go.Ground.phase }, { on := 13, ground := Go.Ground.phase }, { on := 14, ground := Go.Ground.phase }], guard := none }) rfl (by kernel_rfl) (fun K hK => ?_) ?_
                      · skip
                        have zz6 := HZ6.out
                        go_simp
                        refine hK.out _ _ ?_
                        clear hK K
                        try simp only [Act.put, List.setIfInBounds_toArray, List.set_cons_zero, List.set_cons_succ]
                        refine wpAnyZ_done (by kernel_rfl) ?_ _
                        refine NoPanic.normal ?_
                        clear HSI HC1I HC2I
                        go_wp2
                        go_roundg (gk - 1)
                        case measure => have := HN.out; omega
                        case rel => exact ⟨n + 1, by have := HN.out; omega, by go_num, HFIN.out⟩
                      exact AllReadyZ.nil
                    exact AllReadyZ.nil
                  exact AllReadyZ.nil
                exact AllReadyZ.nil
        exact AllReadyZ.nil
      exact AllReadyZ.nil
    exact AllReadyZ.nil
  exact AllReadyZ.nil
end Go.Proofs.YtaegidmodenomaaDoor.ShTW

namespace Go.Proofs.YtaegidmodenomaaDoor.Sft
open Go.RowKit Go.Lib SetP IntO TyM TyP TyW ShM ShP RwO ShTB ShTM

/-- a number of the same kind, or the same -/
def Kin (u u' : Value) : Prop := u' = u ∨ ∃ k a b, u = .int k a ∧ u' = .int k b
theorem Kin.refl (u : Value) : Kin u u := .inl rfl
theorem Kin.trans {u v w : Value} (h : Kin u v) (k : Kin v w) : Kin u w := by
  rcases h with rfl | ⟨k1, a, b, rfl, rfl⟩
  · exact k
  · rcases k with rfl | ⟨k2, a2, b2, h2, rfl⟩
    · exact .inr ⟨k1, a, b, rfl, rfl⟩
    · cases h2
      exact .inr ⟨k1, a, b2, rfl, rfl⟩
/-- below B all stays; the blocks that are there keep their types, their sizes and all that is no number -/
structure Sft (B : Nat) (w w' : World) : Prop where
  old : Below B w w'
  soft : ∀ (g : Nat) (cs : Array Value) (te : TypeId), w.heap[g]? = some (Obj.cells cs te (0, 0)) → ∃ cs' : Array Value, w'.heap[g]? = some (Obj.cells cs' te (0, 0)) ∧ cs'.size = cs.size ∧ ∀ (j : Nat) (u : Value), cs[j]? = some u → ∃ u', cs'[j]? = some u' ∧ Kin u u'
theorem Sft.refl (B : Nat) (w : World) : Sft B w w := ⟨Below.refl _ _, fun _ cs _ h => ⟨cs, h, rfl, fun _ u hj => ⟨u, hj, .refl u⟩⟩⟩
theorem Sft.trans {B : Nat} {a b c : World} (h : Sft B a b) (k : Sft B b c) : Sft B a c :=
  ⟨h.old.trans k.old, fun g cs te hg => by
    obtain ⟨cs1, h1, s1, e1⟩ := h.soft g cs te hg
    obtain ⟨cs2, h2, s2, e2⟩ := k.soft g cs1 te h1
    refine ⟨cs2, h2, s2.trans s1, fun j u hj => ?_⟩
    obtain ⟨u1, hu1, k1⟩ := e1 j u hj
    obtain ⟨u2, hu2, k2⟩ := e2 j u1 hu1
    exact ⟨u2, hu2, k1.trans k2⟩⟩
theorem Sft.below {B : Nat} {a b c : World} (h : Sft B a b) (hb : Below b.heap.size b c) (hB : B ≤ b.heap.size) : Sft B a c :=
  h.trans ⟨hb.mono hB, fun g cs _ hg => ⟨cs, (hb.block g (Array.getElem?_eq_some_iff.1 hg).1).trans hg, rfl, fun _ u hj => ⟨u, hj, .refl u⟩⟩⟩
theorem Sft.drew {B : Nat} {a b : World} (h : Sft B a b) : Sft B a b.drew := ⟨h.old.drew, h.soft⟩
/-- a number is stored -/
theorem Sft.set {B : Nat} {a b : World} (h : Sft B a b) {g j : Nat} {k : IntKind} {x : Int} (hB : B ≤ g) (hc : b.cell? ⟨g, j, none⟩ = some (.int k x)) (y : Int) : Sft B a (b.setCell ⟨g, j, none⟩ (.int k y)) := by
  refine h.trans ⟨(Below.refl _ _).setCell (p := ⟨g, j, none⟩) hB _, fun g' cs te hg => ?_⟩
  by_cases e : g' = g
  · subst e
    refine ⟨cs.setIfInBounds j (.int k y), set_heap' (i := j) (.int k y) hg, by simp, fun j' u hj => ?_⟩
    unfold World.cell? at hc
    rw [hg] at hc
    by_cases e2 : j' = j
    · subst e2
      have hlt := (Array.getElem?_eq_some_iff.1 hj).1
      refine ⟨.int k y, by simp [hlt], ?_⟩
      have : u = .int k x := by
        have h2 : cs[j']? = some (.int k x) := hc
        rw [hj] at h2
        exact Option.some.inj h2
      exact .inr ⟨k, x, y, this, rfl⟩
    · exact ⟨u, by rw [Array.getElem?_setIfInBounds_ne (Ne.symm e2)]; exact hj, .refl u⟩
  · exact ⟨cs, (Below.heap_setCell _ _ _ g' e).trans hg, rfl, fun _ u hj => ⟨u, hj, .refl u⟩⟩

/-- a cell of a row that is owned, later -/
theorem Sft.cell {B C : Nat} {a b : World} (h : Sft C a b) {te : TypeId} {s n g m c : Nat} {xs : List Value} (ho : a.ownsRow B te s (.slice (some ⟨g, 0, none⟩) m c) n xs) {j : Nat} {u : Value} (hj : xs[j]? = some u) :
    ∃ u', b.cell? ⟨g, j, none⟩ = some u' ∧ Kin u u' ∧ b.frozen? ⟨g, j, none⟩ = false := by
  rcases ho.2 with ⟨hh, _⟩ | ⟨g2, cap, cur, hv, hgB, hh, hn, hm, hs, ht⟩
  · cases hh
  · cases hv
    have hc : cur[j]? = some u := by
      have h2 := hj
      rw [← ht, List.getElem?_take, if_pos (by have := (List.getElem?_eq_some_iff.1 hj).1; have := ho.1; omega)] at h2
      simpa using h2
    obtain ⟨cs', h1, _, h3⟩ := h.soft _ _ _ hh
    obtain ⟨u', hu', hk⟩ := h3 j u hc
    refine ⟨u', ?_, hk, (cells_heap h1).2 j⟩
    unfold World.cell?
    rw [h1]
    exact hu'
theorem kin_slice {a : Option Addr} {n c : Nat} {u : Value} (h : Kin (.slice a n c) u) : u = .slice a n c := by
  rcases h with h | ⟨_, _, _, h, _⟩
  · exact h
  · cases h
theorem kin_int {k : IntKind} {x : Int} {u : Value} (h : Kin (.int k x) u) : ∃ y, u = .int k y := by
  rcases h with h | ⟨_, _, _, h, h2⟩
  · exact ⟨_, h⟩
  · cases h; exact ⟨_, h2⟩
theorem Sft.list {B C : Nat} {a b : World} (h : Sft C a b) {te : TypeId} {s n g m c : Nat} {xs : List Value} (ho : a.ownsRow B te s (.slice (some ⟨g, 0, none⟩) m c) n xs) {j : Nat} {la : Option Addr} {ln lc : Nat} (hj : xs[j]? = some (.slice la ln lc)) :
    b.cell? ⟨g, j, none⟩ = some (.slice la ln lc) := by
  obtain ⟨u', h1, h2, _⟩ := h.cell ho hj
  rw [h1, kin_slice h2]
theorem Sft.num {B C : Nat} {a b : World} (h : Sft C a b) {te : TypeId} {s n g m c : Nat} {xs : List Value} (ho : a.ownsRow B te s (.slice (some ⟨g, 0, none⟩) m c) n xs) {j : Nat} {k : IntKind} {x : Int} (hj : xs[j]? = some (.int k x)) :
    ∃ y, b.cell? ⟨g, j, none⟩ = some (.int k y) ∧ b.frozen? ⟨g, j, none⟩ = false := by
  obtain ⟨u', h1, h2, h3⟩ := h.cell ho hj
  obtain ⟨y, rfl⟩ := kin_int h2
  exact ⟨y, h1, h3⟩
/-- where a row's elements lie -/
theorem row_some {B : Nat} {w : World} {te : TypeId} {s n k : Nat} {v : Value} {xs : List Value} (ho : w.ownsRow B te s v n xs) (hk : k < n) : ∃ g cap, v = .slice (some ⟨g, 0, none⟩) n cap ∧ B ≤ g := by
  rcases ho.2 with ⟨_, h0⟩ | ⟨g, cap, _, hv, hgB, _⟩
  · omega
  · exact ⟨g, cap, hv, hgB⟩
end Go.Proofs.YtaegidmodenomaaDoor.Sft

namespace Go.Proofs.YtaegidmodenomaaDoor.ShTS
open Go.RowKit Go.Lib SetP IntO TyM TyP TyW ShM ShP ShB RwO ShTB ShTM Sft

/-- a cell that holds a list, in every world behind -/
theorem list_later {C : Nat} {W : World} {B : Nat} {te : TypeId} {s n g m c : Nat} {xs : List Value} (ho : W.ownsRow B te s (.slice (some ⟨g, 0, none⟩) m c) n xs) {j : Nat} {la : Option Addr} {ln lc : Nat} (hj : xs[j]? = some (.slice la ln lc)) :
    ∀ w', Sft C W w' → w'.cell? ⟨g, j, none⟩ = some (.slice la ln lc) := fun _ h => h.list ho hj
theorem box_later {C : Nat} {W : World} {g : Nat} {cs : Array Value} {te : TypeId} (hg : W.heap[g]? = some (.cells cs te (0, 0))) {j : Nat} {la : Option Addr} {ln lc : Nat} (hj : cs[j]? = some (.slice la ln lc)) :
    ∀ w', Sft C W w' → w'.cell? ⟨g, j, none⟩ = some (.slice la ln lc) := fun w' h => by
  obtain ⟨cs', h1, _, h3⟩ := h.soft _ _ _ hg
  obtain ⟨u', h4, h5⟩ := h3 j _ hj
  unfold World.cell?
  rw [h1, ← kin_slice h5]
  exact h4
theorem int_at {l : List Int} {m : Nat} (h : m < l.length) : (intVals l)[m]? = some (.int .i64 l[m]) := by
  simp [intVals, List.getElem?_eq_getElem h]

set_option maxRecDepth 100000 in
set_option maxHeartbeats 16000000 in
theorem spoil_calls (B : Nat) (p : Px) (v : Value) (w : World) (hp : OwnPr B w v p) (hB : B ≤ w.heap.size) :
    Calls Tryd.prog 21 #[v] w fun e w' => e = .returned (.tuple #[]) ∧ Below B w w' := by
  obtain ⟨vt, vf, tr, fs, rfl, hot, htr, hof, hfs⟩ := hp
  obtain ⟨W, hW⟩ : ∃ W, W = w.alloc (.cells #[vt, vf] 29) := ⟨_, rfl⟩
  have hbW : Below w.heap.size w W := by rw [hW]; exact alloc_below _ _
  have k1 : W.heap[w.heap.size]? = some (.cells #[vt, vf] 29 (0, 0)) := by rw [hW]; exact alloc_new _ _
  have HOT := hid (hot.below hbW)
  have HOF := hid (hof.below hbW)
  obtain ⟨ta, tc, rfl⟩ := own_form hot.1
  obtain ⟨fa, fc, rfl⟩ := own_form hof.1
  have l0 : ∀ w', Sft B W w' → w'.cell? ⟨w.heap.size, 0, none⟩ = some (.slice ta tr.length tc) := box_later k1 rfl
  have l1 : ∀ w', Sft B W w' → w'.cell? ⟨w.heap.size, 1, none⟩ = some (.slice fa fs.length fc) := box_later k1 rfl
  have HBW := hid (hbW.mono hB)
  have HW := hid hW
  have h0 := Sft.refl B W
  have htl := own_len hot.1
  have hfl := own_len hof.1
  clear hot hof htr hfs hbW hW k1 hB
  go_enter Tryd.func21, Tryd.ntmps21
  go_wp2_with fail
  rw [← HW.out]
  go_loopg [2, 3] fs.length (fun gk i _ wr => ∃ k : Nat, k + gk = fs.length ∧ i = .int .i64 k ∧ Sft B W wr)
  case atStart => exact ⟨0, by omega, rfl, h0⟩
  case round =>
    clear h0
    obtain ⟨i, hi, rfl, hr⟩ := hrel
    have HI := hid hi
    by_cases hlt : i < fs.length
    rotate_left
    · obtain rfl : i = fs.length := by omega
      have HHR := hid hr
      clear hi hlt HI
      obtain ⟨wo, hwo⟩ : ∃ wo : World, wo = wr := ⟨wr, rfl⟩
      subst hwo
      generalize hfn : fs.length = fn at *
      clear hfn
      go_wp2_with fail
      clear hr
      go_loopg [8] tr.length (fun gk i wr => ∃ k : Nat, k + gk = tr.length ∧ i = .int .i64 k ∧ Sft B W wr)
      case atStart => exact ⟨0, by omega, rfl, HHR.out⟩
      case round =>
        obtain ⟨k, hk, rfl, hr⟩ := hrel
        have HK := hid hk
        by_cases hlt : k < tr.length
        · obtain ⟨g, cap, hge, hgB⟩ := row_some HOT.out.1 hlt
          obtain ⟨rfl, rfl⟩ : ta = some ⟨g, 0, none⟩ ∧ tc = cap := by simpa using hge
          obtain ⟨y, hc, hz⟩ := hr.num HOT.out.1 (j := k * 4) (rowVals_at tr k hlt).1
          have HNX := hid (hr.set hgB hc 9)
          have hlk : (k : Int) < tr.length := by omega
          clear hge hk
          go_wp2
          go_roundg (gk - 1)
          case measure => have := HK.out; omega
          case rel => exact ⟨k + 1, by have := HK.out; omega, by go_num, HNX.out⟩
        · obtain rfl : k = tr.length := by omega
          have HE := hid (HBW.out.trans hr.old)
          clear hk hlt HK
          generalize tr.length = tn at *
          go_wp2
          go_end0
          exact ⟨rfl, HE.out⟩
    obtain ⟨g, cap, hge, hgB⟩ := row_some HOF.out.1 hlt
    obtain ⟨rfl, rfl⟩ : fa = some ⟨g, 0, none⟩ ∧ fc = cap := by simpa using hge
    have hob := HOF.out.2 _ (List.getElem_mem hlt)
    have c1 := (frW.at fs i hlt 1 (by decide))
    have HSG := hid (fun (wr : World) (hr : Sft B W wr) => hr.num HOF.out.1 (j := i * 2) (frW.at fs i hlt 0 (by decide)))
    have hli : (i : Int) < fs.length := by omega
    have hcl : (frV fs[i])[1]? = some fs[i].vb := rfl
    rw [hcl] at c1
    clear hge hi hcl
    generalize fs[i] = y at *
    obtain ⟨ba, bc, hbe⟩ := own_form hob.1
    obtain ⟨ysig, yvb, ybl⟩ := y
    simp only at hbe hob c1
    subst hbe
    have HOB := hid hob
    have hbl := own_len hob.1
    have c1l : ∀ w', Sft B W w' → w'.cell? ⟨g, i * 2 + 1, none⟩ = some (.slice ba ybl.length bc) := list_later HOF.out.1 c1
    clear hob c1
    obtain ⟨wo, hwo⟩ : ∃ wo : World, wo = wr := ⟨wr, rfl⟩
    subst hwo
    obtain ⟨go, hgo⟩ : ∃ go : Nat, go = gk := ⟨gk, rfl⟩
    subst hgo
    have HR0 := hid hr
    go_wp2_with fail
    clear hr
    go_loopg [3] ybl.length (fun gk i wr => ∃ k : Nat, k + gk = ybl.length ∧ i = .int .i64 k ∧ Sft B W wr)
    case atStart => exact ⟨0, by omega, rfl, HR0.out⟩
    case round =>
      obtain ⟨k, hk, rfl, hr⟩ := hrel
      have HK := hid hk
      by_cases hlt : k < ybl.length
      rotate_left
      · obtain rfl : k = ybl.length := by omega
        obtain ⟨sg, hc, hz⟩ := HSG.out _ hr
        have HNX := hid (hr.set hgB hc (-7))
        clear hk hlt HK
        generalize ybl.length = yn at *
        go_wp2
        go_roundg (go - 1)
        case measure => have := HI.out; omega
        case rel => exact ⟨i + 1, by have := HI.out; omega, by go_num, HNX.out⟩
      obtain ⟨h, hcap, hhe, hhB⟩ := row_some HOB.out.1 hlt
      obtain ⟨rfl, rfl⟩ : ba = some ⟨h, 0, none⟩ ∧ bc = hcap := by simpa using hhe
      have hoi := HOB.out.2 _ (List.getElem_mem hlt)
      have c2 := (brW.at ybl k hlt 0 (by decide))
      have HEK := hid (fun (wr : World) (hr : Sft B W wr) => hr.num HOB.out.1 (j := k * 5 + 1) (brW.at ybl k hlt 1 (by decide)))
      have hlk : (k : Int) < ybl.length := by omega
      have hcl : (brV ybl[k])[0]? = some ybl[k].vi := rfl
      rw [hcl] at c2
      clear hhe hk hcl
      generalize ybl[k] = z at *
      obtain ⟨ia, ic, hie⟩ := own_form hoi.1
      obtain ⟨zen, zvi, zr⟩ := z
      simp only at hie hoi c2
      subst hie
      have HOI := hid hoi
      have hil := own_len hoi.1
      have c2l : ∀ w', Sft B W w' → w'.cell? ⟨h, k * 5, none⟩ = some (.slice ia zr.length ic) := list_later HOB.out.1 c2
      clear hoi c2
      obtain ⟨wp, hwp⟩ : ∃ wp : World, wp = wr := ⟨wr, rfl⟩
      subst hwp
      obtain ⟨gp, hgp⟩ : ∃ gp : Nat, gp = gk := ⟨gk, rfl⟩
      subst hgp
      have HR1 := hid hr
      go_wp2_with fail
      clear hr
      go_loopg [5] zr.length (fun gk i wr => ∃ k : Nat, k + gk = zr.length ∧ i = .int .i64 k ∧ Sft B W wr)
      case atStart => exact ⟨0, by omega, rfl, HR1.out⟩
      case round =>
        obtain ⟨n, hn, rfl, hr⟩ := hrel
        have HN := hid hn
        by_cases hlt : n < zr.length
        rotate_left
        · obtain rfl : n = zr.length := by omega
          obtain ⟨ek, hc, hz⟩ := HEK.out _ hr
          have HNX := hid (hr.set hhB hc 9)
          clear hn hlt HN
          generalize zr.length = zn at *
          go_wp2
          go_roundg (gp - 1)
          case measure => have := HK.out; omega
          case rel => exact ⟨k + 1, by have := HK.out; omega, by go_num, HNX.out⟩
        obtain ⟨q, qcap, hqe, hqB⟩ := row_some HOI.out.1 hlt
        obtain ⟨rfl, rfl⟩ : ia = some ⟨q, 0, none⟩ ∧ ic = qcap := by simpa using hqe
        have hox := HOI.out.2 _ (List.getElem_mem hlt)
        have c5 := (irW.at zr n hlt 5 (by decide))
        have c6 := (irW.at zr n hlt 6 (by decide))
        have HOP := hid (fun (wr : World) (hr : Sft B W wr) => hr.num HOI.out.1 (j := n * 7) (irW.at zr n hlt 0 (by decide)))
        have hln : (n : Int) < zr.length := by omega
        have hcl5 : (irV zr[n])[5]? = some zr[n].va := rfl
        have hcl6 : (irV zr[n])[6]? = some zr[n].vf := rfl
        rw [hcl5] at c5
        rw [hcl6] at c6
        clear hqe hn hcl5 hcl6
        generalize zr[n] = x at *
        obtain ⟨aa, ac, hae⟩ := own_form hox.1
        obtain ⟨fb, fd, hfe⟩ := own_form hox.2
        obtain ⟨xx, xva, xvf⟩ := x
        simp only at hae hfe hox c5 c6
        subst hae
        subst hfe
        obtain ⟨hoa, hov⟩ := hox
        have HOA := hid hoa
        have HOV := hid hov
        have hal := own_len hoa
        have hvl := own_len hov
        simp only at hal hvl
        have c5l : ∀ w', Sft B W w' → w'.cell? ⟨q, n * 7 + 5, none⟩ = some (.slice aa xx.args.length ac) := list_later HOI.out.1 c5
        have c6l : ∀ w', Sft B W w' → w'.cell? ⟨q, n * 7 + 6, none⟩ = some (.slice fb xx.frm.length fd) := list_later HOI.out.1 c6
        clear hoa hov c5 c6
        generalize xx.args = al at *
        generalize xx.frm = fl at *
        obtain ⟨wq, hwq⟩ : ∃ wq : World, wq = wr := ⟨wr, rfl⟩
        subst hwq
        obtain ⟨gq, hgq⟩ : ∃ gq : Nat, gq = gk := ⟨gk, rfl⟩
        subst hgq
        have HR2 := hid hr
        go_wp2_with fail
        clear hr
        go_loopg [6] al.length (fun gk i wr => ∃ k : Nat, k + gk = al.length ∧ i = .int .i64 k ∧ Sft B W wr)
        case atStart => exact ⟨0, by omega, rfl, HR2.out⟩
        case round =>
          obtain ⟨m, hm, rfl, hr⟩ := hrel
          have HM := hid hm
          by_cases hlt : m < al.length
          · obtain ⟨s, scap, hse, hsB⟩ := row_some HOA.out hlt
            obtain ⟨rfl, rfl⟩ : aa = some ⟨s, 0, none⟩ ∧ ac = scap := by simpa using hse
            obtain ⟨u, hc, hz⟩ := hr.num HOA.out (int_at hlt)
            have HNX := hid (hr.set hsB hc (-7))
            have hlm : (m : Int) < al.length := by omega
            clear hse hm
            go_wp2
            go_roundg (gk - 1)
            case measure => have := HM.out; omega
            case rel => exact ⟨m + 1, by have := HM.out; omega, by go_num, HNX.out⟩
          · obtain rfl : m = al.length := by omega
            have HR3 := hid hr
            clear hm hlt HM
            generalize al.length = an at *
            obtain ⟨wv, hwv⟩ : ∃ wv : World, wv = wr := ⟨wr, rfl⟩
            subst hwv
            go_wp2_with fail
            clear hr
            go_loopg [7] fl.length (fun gk i wr => ∃ k : Nat, k + gk = fl.length ∧ i = .int .i64 k ∧ Sft B W wr)
            case atStart => exact ⟨0, by omega, rfl, HR3.out⟩
            case round =>
              obtain ⟨m, hm, rfl, hr⟩ := hrel
              have HM := hid hm
              by_cases hlt : m < fl.length
              · obtain ⟨s, scap, hse, hsB⟩ := row_some HOV.out hlt
                obtain ⟨rfl, rfl⟩ : fb = some ⟨s, 0, none⟩ ∧ fd = scap := by simpa using hse
                obtain ⟨u, hc, hz⟩ := hr.num HOV.out (int_at hlt)
                have HNX := hid (hr.set hsB hc (-7))
                have hlm : (m : Int) < fl.length := by omega
                clear hse hm
                go_wp2
                go_roundg (gk - 1)
                case measure => have := HM.out; omega
                case rel => exact ⟨m + 1, by have := HM.out; omega, by go_num, HNX.out⟩
              · obtain rfl : m = fl.length := by omega
                obtain ⟨op, hc, hz⟩ := HOP.out _ hr
                have HNX := hid (hr.set hqB hc 99)
                clear hm hlt HM
                generalize fl.length = fln at *
                go_wp2
                go_roundg (gq - 1)
                case measure => have := HN.out; omega
                case rel => exact ⟨n + 1, by have := HN.out; omega, by go_num, HNX.out⟩
end Go.Proofs.YtaegidmodenomaaDoor.ShTS
