/- Walk over bits.inStep. -/
import Derived.Test.YtecfjjpdlohmnaaDoorBitPut
import Derived.Deep.LoopGhost
import Derived.Deep.RegionHeld3
import Derived.Deep.RegionWith
import Derived.Deep.Cut
import Derived.Deep.CutRange
import Derived.Deep.DeepCutAuto
namespace Go.Proofs.YtecfjjpdlohmnaaDoor.BitStep
open Go.RowKit Go.Lib SetP SetO SetNum SetIn SetWith SetT SetW2 BitOps BitPut

theorem cellsWd : Tryd.prog.cellsOf 34 = 2 := by kernel_rfl

/-- a set without its first word -/
theorem rest_set {w : World} {x : Wd} {s : List Wd} {ao : Option Addr} {n cap : Nat} (h : SetAt w (.slice ao n cap) (x :: s)) :
    ∃ v, SetAt w v s ∧ ∀ w', (Instr.slice 22 (.slice ao n cap) (some (.int .i64 1)) none none).run Tryd.prog w' = .ok v w' := by
  obtain ⟨ao2, cap2, he, hl, hm, hz, hcap⟩ := h
  simp at he
  obtain ⟨rfl, rfl, rfl⟩ := he
  simp at hl hcap
  obtain ⟨b, off, rfl, hb, hc⟩ := hm (by simp)
  have hrun : ∀ w', (Instr.slice 22 (.slice (some ⟨b, off, none⟩) (s.length + 1) cap) (some (.int .i64 1)) none none).run Tryd.prog w' = .ok (sliced (some ⟨b, off, none⟩) 1 (s.length + 1) cap 2) w' := by
    intro w'
    have hsz : (sizeOf (Tryd.prog.elem 22)).run Tryd.prog w' = .ok 2 w' := by kernel_rfl
    rw [run_slice_l (P := Tryd.prog) (w := w') 22 (some ⟨b, off, none⟩) (s.length + 1) cap (by kernel_rfl) .i64 1 (by omega) (by omega), hsz]
    rfl
  refine ⟨_, ?_, hrun⟩
  unfold sliced
  by_cases hcx : cap = 1
  · have : s = [] := List.eq_nil_of_length_eq_zero (by omega)
    subst this
    rw [if_pos hcx]
    exact ⟨some ⟨b, off, none⟩, cap - 1, by simp, by simp, fun h => by simp at h, (fun h => by cases h), by simp⟩
  · rw [if_neg hcx]
    refine ⟨some ⟨b, off + 2, none⟩, cap - 1, by simp [Addr.add], by omega, fun _ => ⟨b, off + 2, rfl, hb, fun i hi => ?_⟩, (fun h => by cases h), by omega⟩
    obtain ⟨c0, c1⟩ := hc (i + 1) (by simp; omega)
    simp only [List.getElem_cons_succ] at c0 c1
    rw [show off + 2 + i * 2 = off + (i + 1) * 2 by omega]
    exact ⟨c0, c1⟩
/-- a set's first word -/
theorem first_set {w : World} {x : Wd} {s : List Wd} {v : Value} (h : SetAt w v (x :: s)) :
    ∃ b off cap, v = .slice (some ⟨b, off, none⟩) (s.length + 1) cap ∧ b < w.heap.size ∧ w.cell? ⟨b, off, none⟩ = some (.int .i64 x.1) ∧ w.cell? ⟨b, off + 1, none⟩ = some (.int .u64 x.2) ∧ s.length + 1 ≤ cap := by
  obtain ⟨ao, cap, rfl, hl, hm, hz, hcap⟩ := h
  obtain ⟨b, off, rfl, hb, hc⟩ := hm (by simp)
  obtain ⟨c0, c1⟩ := hc 0 (by simp)
  exact ⟨b, off, cap, by simp, hb, by simpa using c0, by simpa using c1, by simpa using hcap⟩
theorem nil_set {w : World} {v : Value} (h : SetAt w v []) : ∃ ao cap, v = .slice ao 0 cap := by
  obtain ⟨ao, cap, rfl, _⟩ := h
  exact ⟨ao, cap, by simp⟩

theorem emit_length (p z : Int) : (emit p z).length ≤ 1 := by unfold emit; split <;> simp
theorem merge_length (F : Int → Int → Int) : ∀ (a b : List Wd), (mergeS F a b).length ≤ a.length + b.length
  | [], [] => by rw [mergeS]; simp
  | x :: a, [] => by
    rw [mergeS, List.length_append]
    have := merge_length F a []
    have := emit_length x.1 (F x.2 0)
    simp at *; omega
  | [], y :: b => by
    rw [mergeS, List.length_append]
    have := merge_length F [] b
    have := emit_length y.1 (F 0 y.2)
    simp at *; omega
  | x :: a, y :: b => by
    rw [mergeS]
    split
    · rw [List.length_append]
      have := merge_length F a (y :: b)
      have := emit_length x.1 (F x.2 0)
      simp at *; omega
    · split
      · rw [List.length_append]
        have := merge_length F (x :: a) b
        have := emit_length y.1 (F 0 y.2)
        simp at *; omega
      · rw [List.length_append]
        have := merge_length F a b
        have := emit_length y.1 (F x.2 y.2)
        simp at *; omega
  termination_by a b => a.length + b.length

theorem mid_drew {g : FuncId} {Bs Bb B : Nat} {t : List Wd} {w : World} (h : Mid g Bs Bb B t w) : Mid g Bs Bb B t w.drew := by
  obtain ⟨v, m, h1, h2, h3⟩ := h
  exact ⟨v, m, h1, h2, h3⟩

theorem keep_alloc {w : World} {a : Addr} {v : Value} {o : Obj} (h : w.cell? a = some v) : (w.alloc o).cell? a = some v := by
  have := World.block_lt_of_cell? w a h
  exact (World.cell?_of_block (w := w) (Below.heap_alloc w o a.block this)).trans h
theorem keep_drew {w : World} {a : Addr} {v : Value} (h : w.cell? a = some v) : w.drew.cell? a = some v := h
theorem keep_drewN {w : World} {a : Addr} {v : Value} {n : Nat} (h : w.cell? a = some v) : (w.drewN n).cell? a = some v := by
  simpa using h
theorem keep_set {w : World} {a p : Addr} {v u : Value} (h : w.cell? a = some v) (hp : a.block ≠ p.block) : (w.setCell p u).cell? a = some v :=
  (World.cell?_of_block (w := w) (Below.heap_setCell w p u a.block hp)).trans h

theorem mid_alloc {g : FuncId} {Bs Bb B : Nat} {t : List Wd} {w : World} (o : Obj) (h : Mid g Bs Bb B t w) : Mid g Bs Bb B t (w.alloc o) := by
  obtain ⟨v, m, h1, h2, h3⟩ := h
  exact ⟨v, m, h1.alloc _, h2.alloc _, h3.alloc _⟩
theorem mid_drewN {g : FuncId} {Bs Bb B : Nat} {t : List Wd} {w : World} (n : Nat) (h : Mid g Bs Bb B t w) : Mid g Bs Bb B t (w.drewN n) := by
  obtain ⟨v, m, h1, h2, h3⟩ := h
  exact ⟨v, m, h1, h2, h3⟩
theorem merge_nl {F : Int → Int → Int} {y : Wd} {b : List Wd} : mergeS F [] (y :: b) = emit y.1 (F 0 y.2) ++ mergeS F [] b := by rw [mergeS]
theorem merge_nr {F : Int → Int → Int} {x : Wd} {a : List Wd} : mergeS F (x :: a) [] = emit x.1 (F x.2 0) ++ mergeS F a [] := by rw [mergeS]
theorem merge_lt {F : Int → Int → Int} {x y : Wd} {a b : List Wd} (h : x.1 < y.1) : mergeS F (x :: a) (y :: b) = emit x.1 (F x.2 0) ++ mergeS F a (y :: b) := by rw [mergeS, if_pos h]
theorem merge_gt {F : Int → Int → Int} {x y : Wd} {a b : List Wd} (h : y.1 < x.1) : mergeS F (x :: a) (y :: b) = emit y.1 (F 0 y.2) ++ mergeS F (x :: a) b := by rw [mergeS, if_neg (by omega), if_pos h]
theorem merge_eq {F : Int → Int → Int} {x y : Wd} {a b : List Wd} (h : x.1 = y.1) : mergeS F (x :: a) (y :: b) = emit y.1 (F x.2 y.2) ++ mergeS F a b := by rw [mergeS, if_neg (by omega), if_neg (by omega)]

/-- the relation of the loop -/
def Rel (g : FuncId) (F : Int → Int → Int) (Bs Bb B : Nat) (W : World) (r : List Wd) (a b t : List Wd) (va vb : Value) (wr : World) : Prop :=
  SetAt W va a ∧ SetAt W vb b ∧ (∀ x ∈ a, U x.2) ∧ (∀ x ∈ b, U x.2) ∧ Mid g Bs Bb B t wr ∧ t ++ mergeS F a b = r ∧ Below B W wr

set_option maxRecDepth 100000 in
set_option maxHeartbeats 4000000 in
theorem step_calls (g : FuncId) (he : Enters Tryd.prog g) (F : Int → Int → Int)
    (hop : ∀ x y w, U x → U y → Calls Tryd.prog g #[.int .u64 x, .int .u64 y] w fun e w' => e = .returned (.int .u64 (F x y)) ∧ w = w')
    (va vb : Value) (a b : List Wd) (W : World) (ha : SetAt W va a) (hb : SetAt W vb b) (hua : ∀ x ∈ a, U x.2) (hub : ∀ x ∈ b, U x.2) (hla : a.length ≤ 16384) (hlb : b.length ≤ 16384)
    (Bs Bb : Nat) (hBs : W.heap.size ≤ Bs) (w : World) (hw : Below W.heap.size W w) (hmid : Mid g Bs Bb W.heap.size [] w) :
    Calls Tryd.prog 38 #[va, vb, .func (.func 37) #[] #[], .func (.func 39) #[] #[.pointer (some ⟨Bb, 0, none⟩), .pointer (some ⟨Bs, 0, none⟩)]] w
      (fun e w' => e = .returned (.tuple #[]) ∧ Mid g Bs Bb W.heap.size (mergeS F a b) w' ∧ Below W.heap.size W w') := by
  have HPUT := hid (put_calls g he F hop)
  obtain ⟨ao, capa, rfl⟩ : ∃ ao cap, va = .slice ao a.length cap := by obtain ⟨ao, cap, rfl, _⟩ := ha; exact ⟨ao, cap, rfl⟩
  obtain ⟨bo, capb, rfl⟩ : ∃ ao cap, vb = .slice ao b.length cap := by obtain ⟨ao, cap, rfl, _⟩ := hb; exact ⟨ao, cap, rfl⟩
  have HR0 : Hid (Rel g F Bs Bb W.heap.size W (mergeS F a b) a b [] (.slice ao a.length capa) (.slice bo b.length capb) w) := ⟨ha, hb, hua, hub, hmid, rfl, hw⟩
  clear hop he ha hb hua hub hmid hw
  go_enter Tryd.func38, Tryd.ntmps38
  go_wp2_with fail
  go_loopg [0, 1] (a.length + b.length) (fun gg va vb wr => ∃ a' b' t, a'.length + b'.length = gg ∧ Rel g F Bs Bb W.heap.size W (mergeS F a b) a' b' t va vb wr)
  case atStart => exact ⟨a, b, [], rfl, HR0.out⟩
  case round =>
    obtain ⟨a', b', t, hk, hrel⟩ := hrel
    obtain ⟨hsa, hsb, hua, hub, hmid, hr, hbe⟩ := hrel
    have HT : Hid (t.length ≤ 32768) := by
      have h1 := congrArg List.length hr
      rw [List.length_append] at h1
      have h2 := merge_length F a b
      show t.length ≤ _
      omega
    have hbs := hbe.size
    cases a' with
    | nil =>
      cases b' with
      | nil =>
        obtain ⟨ao2, ca2, rfl⟩ := nil_set hsa
        obtain ⟨bo2, cb2, rfl⟩ := nil_set hsb
        rw [mergeS, List.append_nil] at hr
        subst hr
        clear hsa hsb
        have HMID := hid hmid
        have HBE := hid hbe
        clear hmid hbe
        go_wp2
        go_end0
        exact ⟨rfl, HMID.out, HBE.out⟩
      | cons y b1 =>
        obtain ⟨ao2, ca2, rfl⟩ := nil_set hsa
        obtain ⟨by', oy, cy, rfl, hby, cy0, cy1, hcy⟩ := first_set hsb
        obtain ⟨vb2, hvb2, hrunB⟩ := rest_set hsb
        have HVB := hid hvb2
        have D0 : Hid (W.cell? ⟨by', oy, none⟩ = some (.int .i64 y.1) ∧ W.cell? ⟨by', oy + 1, none⟩ = some (.int .u64 y.2)) := ⟨cy0, cy1⟩
        have ky0 := (hbe.cell (p := ⟨by', oy, none⟩) hby).trans cy0
        have ky1 := (hbe.cell (p := ⟨by', oy + 1, none⟩) hby).trans cy1
        have hky : by' < wr.heap.size := Nat.lt_of_lt_of_le hby hbs
        have huy := hid (hub y (by simp))
        have HUB := hid (fun z (hz : z ∈ b1) => hub z (by simp [hz]))
        clear hvb2 cy0 cy1
        have HSA := hid hsa
        have HSB := hid hsb
        have HUA0 := hid hua
        have HUB0 := hid hub
        have HMID := hid hmid
        have HR := hid hr
        have HBE := hid hbe
        clear hsa hsb hua hub hmid hr hbe
        simp only [List.length_cons, List.length_nil] at hk
        have HK := hid hk
        clear hk
        obtain ⟨y1, y2⟩ := y
        simp only at ky0 ky1
        have hne1 : ((b1.length : Int) + 1 == 0) = false := by simp; omega
        go_upto_region 1 with fail
        go_cut [8] (fun oa wc => oa = .bool false ∧ Mid g Bs Bb W.heap.size t wc ∧ Below W.heap.size W wc)
        case first =>
          go_quiet (fail)
          go_wp2_with fail
          go_meet
          case rel => exact ⟨rfl, mid_drewN _ HMID.out, below_drewN HBE.out _⟩
        case rest =>
        obtain ⟨rfl, hmc, hbc⟩ := hcut
        clear ky0 ky1 hky HMID HBE
        have ky0 := (hbc.cell (p := ⟨by', oy, none⟩) hby).trans D0.out.1
        have ky1 := (hbc.cell (p := ⟨by', oy + 1, none⟩) hby).trans D0.out.2
        have hky : by' < wc.heap.size := Nat.lt_of_lt_of_le hby hbc.size
        have HMID := hid hmc
        have HBE := hid hbc
        clear hmc hbc
        obtain ⟨wd, rfl⟩ : ∃ wd : World, wd = wc := ⟨_, rfl⟩
        go_upto_region 2 with fail
        go_cut [9] (fun oa wc => oa = .bool true ∧ Mid g Bs Bb W.heap.size t wc ∧ Below W.heap.size W wc)
        case first =>
          go_quiet (fail)
          go_wp2_with fail
          go_meet
          case rel => exact ⟨rfl, mid_drewN _ HMID.out, below_drewN HBE.out _⟩
        case rest =>
        obtain ⟨rfl, hmc, hbc⟩ := hcut
        clear ky0 ky1 hky HMID HBE
        have ky0 := (hbc.cell (p := ⟨by', oy, none⟩) hby).trans D0.out.1
        have ky1 := (hbc.cell (p := ⟨by', oy + 1, none⟩) hby).trans D0.out.2
        have hky : by' < wc.heap.size := Nat.lt_of_lt_of_le hby hbc.size
        have HMID := hid hmc
        have HBE := hid hbc
        clear hmc hbc
        have hny : by' ≠ wc.heap.size := Nat.ne_of_lt hky
        have hny1 : by' ≠ wc.heap.size + 1 := by omega
        go_wp2_with fail
        go_region_held3 (fun w' => w'.cell? ⟨by', oy, none⟩ = some (.int .i64 y1) ∧ w'.cell? ⟨by', oy + 1, none⟩ = some (.int .u64 y2))
          (first | (refine ⟨?_, ?_⟩ <;> (repeat (first | assumption | refine keep_drew ?_ | refine keep_alloc ?_ | refine keep_set ?_ (by first | exact hnx | exact hny | exact hnx1 | exact hny1))))) (first | (go_at_call 37; refine (place_calls _ _ _).mono ?_; rintro e w' ⟨rfl, rfl⟩))
        all_goals
          go_wp2_with fail
          refine (HPUT.out y1 0 0 y1 y2 ⟨by omega, by omega⟩ huy.out Bs Bb W.heap.size hBs t HT.out _ ?sz ?md).mono ?_
          case sz => have := HBE.out.size; simp; omega
          case md => exact (by repeat (first | exact HMID.out | refine mid_drew ?_ | refine mid_alloc _ ?_))
          rintro e w3 ⟨rfl, hm3, hb3⟩
          have hb4 : Below W.heap.size W w3 := Below.trans (by repeat (first | exact HBE.out | refine Below.drew ?_ | refine Below.alloc ?_ ?_ _ | (have := HBE.out.size; simp; omega))) hb3
          clear hb3
          go_wp2
          go_roundg (gk - 1)
          case measure => have := HK.out; omega
          case rel => exact ⟨[], b1, t ++ emit y1 (F 0 y2), by have := HK.out; simp; omega, HSA.out, HVB.out, HUA0.out, HUB.out, hm3, by rw [List.append_assoc, ← merge_nl (F := F) (y := (y1, y2)) (b := b1)]; exact HR.out, hb4⟩
    | cons x a1 =>
      cases b' with
      | nil =>
        obtain ⟨bx, ox, cx, rfl, hbx, cx0, cx1, hcx⟩ := first_set hsa
        obtain ⟨va2, hva2, hrunA⟩ := rest_set hsa
        have HVA := hid hva2
        have C0 : Hid (W.cell? ⟨bx, ox, none⟩ = some (.int .i64 x.1) ∧ W.cell? ⟨bx, ox + 1, none⟩ = some (.int .u64 x.2)) := ⟨cx0, cx1⟩
        have kx0 := (hbe.cell (p := ⟨bx, ox, none⟩) hbx).trans cx0
        have kx1 := (hbe.cell (p := ⟨bx, ox + 1, none⟩) hbx).trans cx1
        have hkx : bx < wr.heap.size := Nat.lt_of_lt_of_le hbx hbs
        have hux := hid (hua x (by simp))
        have HUA := hid (fun z (hz : z ∈ a1) => hua z (by simp [hz]))
        clear hva2 cx0 cx1
        obtain ⟨bo2, cb2, rfl⟩ := nil_set hsb
        have HSA := hid hsa
        have HSB := hid hsb
        have HUA0 := hid hua
        have HUB0 := hid hub
        have HMID := hid hmid
        have HR := hid hr
        have HBE := hid hbe
        clear hsa hsb hua hub hmid hr hbe
        simp only [List.length_cons, List.length_nil] at hk
        have HK := hid hk
        clear hk
        obtain ⟨x1, x2⟩ := x
        simp only at kx0 kx1
        have hne2 : ((a1.length : Int) + 1 == 0) = false := by simp; omega
        go_upto_region 1 with fail
        go_cut [8] (fun oa wc => oa = .bool true ∧ Mid g Bs Bb W.heap.size t wc ∧ Below W.heap.size W wc)
        case first =>
          go_quiet (fail)
          go_wp2_with fail
          go_meet
          case rel => exact ⟨rfl, mid_drewN _ HMID.out, below_drewN HBE.out _⟩
        case rest =>
        obtain ⟨rfl, hmc, hbc⟩ := hcut
        clear kx0 kx1 hkx HMID HBE
        have kx0 := (hbc.cell (p := ⟨bx, ox, none⟩) hbx).trans C0.out.1
        have kx1 := (hbc.cell (p := ⟨bx, ox + 1, none⟩) hbx).trans C0.out.2
        have hkx : bx < wc.heap.size := Nat.lt_of_lt_of_le hbx hbc.size
        have HMID := hid hmc
        have HBE := hid hbc
        clear hmc hbc
        obtain ⟨wd, rfl⟩ : ∃ wd : World, wd = wc := ⟨_, rfl⟩
        go_upto_region 2 with fail
        go_cut [9] (fun oa wc => oa = .bool false ∧ Mid g Bs Bb W.heap.size t wc ∧ Below W.heap.size W wc)
        case first =>
          go_quiet (fail)
          go_wp2_with fail
          go_meet
          case rel => exact ⟨rfl, mid_drewN _ HMID.out, below_drewN HBE.out _⟩
        case rest =>
        obtain ⟨rfl, hmc, hbc⟩ := hcut
        clear kx0 kx1 hkx HMID HBE
        have kx0 := (hbc.cell (p := ⟨bx, ox, none⟩) hbx).trans C0.out.1
        have kx1 := (hbc.cell (p := ⟨bx, ox + 1, none⟩) hbx).trans C0.out.2
        have hkx : bx < wc.heap.size := Nat.lt_of_lt_of_le hbx hbc.size
        have HMID := hid hmc
        have HBE := hid hbc
        clear hmc hbc
        have hnx : bx ≠ wc.heap.size := Nat.ne_of_lt hkx
        have hnx1 : bx ≠ wc.heap.size + 1 := by omega
        go_wp2_with fail
        go_region_held3 (fun w' => w'.cell? ⟨bx, ox, none⟩ = some (.int .i64 x1) ∧ w'.cell? ⟨bx, ox + 1, none⟩ = some (.int .u64 x2))
          (first | (refine ⟨?_, ?_⟩ <;> (repeat (first | assumption | refine keep_drew ?_ | refine keep_alloc ?_ | refine keep_set ?_ (by first | exact hnx | exact hny | exact hnx1 | exact hny1))))) (first | (go_at_call 37; refine (place_calls _ _ _).mono ?_; rintro e w' ⟨rfl, rfl⟩))
        all_goals
          go_wp2_with fail
          refine (HPUT.out x1 x1 x2 0 0 hux.out ⟨by omega, by omega⟩ Bs Bb W.heap.size hBs t HT.out _ ?sz ?md).mono ?_
          case sz => have := HBE.out.size; simp; omega
          case md => exact (by repeat (first | exact HMID.out | refine mid_drew ?_ | refine mid_alloc _ ?_))
          rintro e w3 ⟨rfl, hm3, hb3⟩
          have hb4 : Below W.heap.size W w3 := Below.trans (by repeat (first | exact HBE.out | refine Below.drew ?_ | refine Below.alloc ?_ ?_ _ | (have := HBE.out.size; simp; omega))) hb3
          clear hb3
          go_wp2
          go_roundg (gk - 1)
          case measure => have := HK.out; omega
          case rel => exact ⟨a1, [], t ++ emit x1 (F x2 0), by have := HK.out; simp; omega, HVA.out, HSB.out, HUA.out, HUB0.out, hm3, by rw [List.append_assoc, ← merge_nr (F := F) (x := (x1, x2)) (a := a1)]; exact HR.out, hb4⟩
      | cons y b1 =>
        obtain ⟨bx, ox, cx, rfl, hbx, cx0, cx1, hcx⟩ := first_set hsa
        obtain ⟨va2, hva2, hrunA⟩ := rest_set hsa
        have HVA := hid hva2
        have C0 : Hid (W.cell? ⟨bx, ox, none⟩ = some (.int .i64 x.1) ∧ W.cell? ⟨bx, ox + 1, none⟩ = some (.int .u64 x.2)) := ⟨cx0, cx1⟩
        have kx0 := (hbe.cell (p := ⟨bx, ox, none⟩) hbx).trans cx0
        have kx1 := (hbe.cell (p := ⟨bx, ox + 1, none⟩) hbx).trans cx1
        have hkx : bx < wr.heap.size := Nat.lt_of_lt_of_le hbx hbs
        have hux := hid (hua x (by simp))
        have HUA := hid (fun z (hz : z ∈ a1) => hua z (by simp [hz]))
        clear hva2 cx0 cx1
        obtain ⟨by', oy, cy, rfl, hby, cy0, cy1, hcy⟩ := first_set hsb
        obtain ⟨vb2, hvb2, hrunB⟩ := rest_set hsb
        have HVB := hid hvb2
        have D0 : Hid (W.cell? ⟨by', oy, none⟩ = some (.int .i64 y.1) ∧ W.cell? ⟨by', oy + 1, none⟩ = some (.int .u64 y.2)) := ⟨cy0, cy1⟩
        have ky0 := (hbe.cell (p := ⟨by', oy, none⟩) hby).trans cy0
        have ky1 := (hbe.cell (p := ⟨by', oy + 1, none⟩) hby).trans cy1
        have hky : by' < wr.heap.size := Nat.lt_of_lt_of_le hby hbs
        have huy := hid (hub y (by simp))
        have HUB := hid (fun z (hz : z ∈ b1) => hub z (by simp [hz]))
        clear hvb2 cy0 cy1
        have HSA := hid hsa
        have HSB := hid hsb
        have HUA0 := hid hua
        have HUB0 := hid hub
        have HMID := hid hmid
        have HR := hid hr
        have HBE := hid hbe
        clear hsa hsb hua hub hmid hr hbe
        simp only [List.length_cons] at hk
        have HK := hid hk
        clear hk
        obtain ⟨x1, x2⟩ := x
        simp only at kx0 kx1
        have hne2 : ((a1.length : Int) + 1 == 0) = false := by simp; omega
        obtain ⟨y1, y2⟩ := y
        simp only at ky0 ky1
        have hne1 : ((b1.length : Int) + 1 == 0) = false := by simp; omega
        go_upto_region 1 with fail
        go_cut [8] (fun oa wc => oa = .bool (decide (x1 ≤ y1)) ∧ Mid g Bs Bb W.heap.size t wc ∧ Below W.heap.size W wc)
        case first =>
          go_region_held3 (fun w' => w'.cell? ⟨bx, ox, none⟩ = some (.int .i64 x1) ∧ w'.cell? ⟨bx, ox + 1, none⟩ = some (.int .u64 x2) ∧ w'.cell? ⟨by', oy, none⟩ = some (.int .i64 y1) ∧ w'.cell? ⟨by', oy + 1, none⟩ = some (.int .u64 y2))
            (go_keep) (first | (go_at_call 37; refine (place_calls _ _ _).mono ?_; rintro e w' ⟨rfl, rfl⟩))
          all_goals
            go_wp2_with fail
            go_meet
            case rel =>
              have q1 := mid_alloc (.cells #[.int .i64 x1, .int .u64 x2] 34) HMID.out
              have q2 := HBE.out.alloc HBE.out.size (.cells #[.int .i64 x1, .int .u64 x2] 34)
              have q3 := mid_alloc (.cells #[.int .i64 y1, .int .u64 y2] 34) q1
              have q4 := q2.alloc q2.size (.cells #[.int .i64 y1, .int .u64 y2] 34)
              exact ⟨rfl, mid_drew q3, q4.drew⟩
        case rest =>
        obtain ⟨rfl, hmc, hbc⟩ := hcut
        clear kx0 kx1 hkx ky0 ky1 hky HMID HBE
        have kx0 := (hbc.cell (p := ⟨bx, ox, none⟩) hbx).trans C0.out.1
        have kx1 := (hbc.cell (p := ⟨bx, ox + 1, none⟩) hbx).trans C0.out.2
        have hkx : bx < wc.heap.size := Nat.lt_of_lt_of_le hbx hbc.size
        have ky0 := (hbc.cell (p := ⟨by', oy, none⟩) hby).trans D0.out.1
        have ky1 := (hbc.cell (p := ⟨by', oy + 1, none⟩) hby).trans D0.out.2
        have hky : by' < wc.heap.size := Nat.lt_of_lt_of_le hby hbc.size
        have HMID := hid hmc
        have HBE := hid hbc
        clear hmc hbc
        obtain ⟨wd, rfl⟩ : ∃ wd : World, wd = wc := ⟨_, rfl⟩
        go_upto_region 2 with fail
        go_cut [9] (fun oa wc => oa = .bool (decide (y1 ≤ x1)) ∧ Mid g Bs Bb W.heap.size t wc ∧ Below W.heap.size W wc)
        case first =>
          go_region_held3 (fun w' => w'.cell? ⟨bx, ox, none⟩ = some (.int .i64 x1) ∧ w'.cell? ⟨bx, ox + 1, none⟩ = some (.int .u64 x2) ∧ w'.cell? ⟨by', oy, none⟩ = some (.int .i64 y1) ∧ w'.cell? ⟨by', oy + 1, none⟩ = some (.int .u64 y2))
            (go_keep) (first | (go_at_call 37; refine (place_calls _ _ _).mono ?_; rintro e w' ⟨rfl, rfl⟩))
          all_goals
            go_wp2_with fail
            go_meet
            case rel =>
              have q1 := mid_alloc (.cells #[.int .i64 y1, .int .u64 y2] 34) HMID.out
              have q2 := HBE.out.alloc HBE.out.size (.cells #[.int .i64 y1, .int .u64 y2] 34)
              have q3 := mid_alloc (.cells #[.int .i64 x1, .int .u64 x2] 34) q1
              have q4 := q2.alloc q2.size (.cells #[.int .i64 x1, .int .u64 x2] 34)
              exact ⟨rfl, mid_drew q3, q4.drew⟩
        case rest =>
        obtain ⟨rfl, hmc, hbc⟩ := hcut
        clear kx0 kx1 hkx ky0 ky1 hky HMID HBE
        have kx0 := (hbc.cell (p := ⟨bx, ox, none⟩) hbx).trans C0.out.1
        have kx1 := (hbc.cell (p := ⟨bx, ox + 1, none⟩) hbx).trans C0.out.2
        have hkx : bx < wc.heap.size := Nat.lt_of_lt_of_le hbx hbc.size
        have ky0 := (hbc.cell (p := ⟨by', oy, none⟩) hby).trans D0.out.1
        have ky1 := (hbc.cell (p := ⟨by', oy + 1, none⟩) hby).trans D0.out.2
        have hky : by' < wc.heap.size := Nat.lt_of_lt_of_le hby hbc.size
        have HMID := hid hmc
        have HBE := hid hbc
        clear hmc hbc
        have hnx : bx ≠ wc.heap.size := Nat.ne_of_lt hkx
        have hnx1 : bx ≠ wc.heap.size + 1 := by omega
        have hny : by' ≠ wc.heap.size := Nat.ne_of_lt hky
        have hny1 : by' ≠ wc.heap.size + 1 := by omega
        rcases Int.lt_trichotomy x1 y1 with hlt | heq | hgt
        · have d1 : decide (x1 ≤ y1) = true := by simp; omega
          have d2 : decide (y1 ≤ x1) = false := by simp; omega
          have HLT := hid hlt
          go_wp2_with fail
          go_region_held3 (fun w' => w'.cell? ⟨bx, ox, none⟩ = some (.int .i64 x1) ∧ w'.cell? ⟨bx, ox + 1, none⟩ = some (.int .u64 x2))
            (first | (refine ⟨?_, ?_⟩ <;> (repeat (first | assumption | refine keep_drew ?_ | refine keep_alloc ?_ | refine keep_set ?_ (by first | exact hnx | exact hny | exact hnx1 | exact hny1))))) (first | (go_at_call 37; refine (place_calls _ _ _).mono ?_; rintro e w' ⟨rfl, rfl⟩))
          all_goals
            go_wp2_with fail
            refine (HPUT.out x1 x1 x2 0 0 hux.out ⟨by omega, by omega⟩ Bs Bb W.heap.size hBs t HT.out _ ?sz ?md).mono ?_
            case sz => have := HBE.out.size; simp; omega
            case md => exact (by repeat (first | exact HMID.out | refine mid_drew ?_ | refine mid_alloc _ ?_))
            rintro e w3 ⟨rfl, hm3, hb3⟩
            have hb4 : Below W.heap.size W w3 := Below.trans (by repeat (first | exact HBE.out | refine Below.drew ?_ | refine Below.alloc ?_ ?_ _ | (have := HBE.out.size; simp; omega))) hb3
            clear hb3
            go_wp2
            go_roundg (gk - 1)
            case measure => have := HK.out; omega
            case rel => exact ⟨a1, (y1, y2) :: b1, t ++ emit x1 (F x2 0), by have := HK.out; simp; omega, HVA.out, HSB.out, HUA.out, HUB0.out, hm3, by rw [List.append_assoc, ← merge_lt (x := (x1, x2)) (y := (y1, y2)) HLT.out]; exact HR.out, hb4⟩
        · subst heq
          have d1 : decide (x1 ≤ x1) = true := by simp
          have HEQ := hid (merge_eq (F := F) (x := (x1, x2)) (y := (x1, y2)) (a := a1) (b := b1) rfl)
          go_wp2_with fail
          go_region_held3 (fun w' => w'.cell? ⟨bx, ox, none⟩ = some (.int .i64 x1) ∧ w'.cell? ⟨bx, ox + 1, none⟩ = some (.int .u64 x2))
            (first | (refine ⟨?_, ?_⟩ <;> (repeat (first | assumption | refine keep_drew ?_ | refine keep_alloc ?_ | refine keep_set ?_ (by first | exact hnx | exact hny | exact hnx1 | exact hny1))))) (first | (go_at_call 37; refine (place_calls _ _ _).mono ?_; rintro e w' ⟨rfl, rfl⟩))
          all_goals
            go_wp2_with fail
            go_region_held3 (fun w' => w'.cell? ⟨by', oy, none⟩ = some (.int .i64 x1) ∧ w'.cell? ⟨by', oy + 1, none⟩ = some (.int .u64 y2))
              (first | (refine ⟨?_, ?_⟩ <;> (repeat (first | assumption | refine keep_drew ?_ | refine keep_alloc ?_ | refine keep_set ?_ (by first | exact hnx | exact hny | exact hnx1 | exact hnx1))))) (first | (go_at_call 37; refine (place_calls _ _ _).mono ?_; rintro e w' ⟨rfl, rfl⟩))
          all_goals
            go_wp2_with fail
            refine (HPUT.out x1 x1 x2 x1 y2 hux.out huy.out Bs Bb W.heap.size hBs t HT.out _ ?sz ?md).mono ?_
            case sz => have := HBE.out.size; simp; omega
            case md => exact (by repeat (first | exact HMID.out | refine mid_drew ?_ | refine mid_alloc _ ?_))
            rintro e w3 ⟨rfl, hm3, hb3⟩
            have hb4 : Below W.heap.size W w3 := Below.trans (by repeat (first | exact HBE.out | refine Below.drew ?_ | refine Below.alloc ?_ ?_ _ | (have := HBE.out.size; simp; omega))) hb3
            clear hb3
            go_wp2
            go_roundg (gk - 2)
            case measure => have := HK.out; omega
            case rel => exact ⟨a1, b1, t ++ emit x1 (F x2 y2), by have := HK.out; omega, HVA.out, HVB.out, HUA.out, HUB.out, hm3, by rw [List.append_assoc, ← HEQ.out]; exact HR.out, hb4⟩
        · have d1 : decide (x1 ≤ y1) = false := by simp; omega
          have d2 : decide (y1 ≤ x1) = true := by simp; omega
          have HLT := hid hgt
          go_wp2_with fail
          go_region_held3 (fun w' => w'.cell? ⟨by', oy, none⟩ = some (.int .i64 y1) ∧ w'.cell? ⟨by', oy + 1, none⟩ = some (.int .u64 y2))
            (first | (refine ⟨?_, ?_⟩ <;> (repeat (first | assumption | refine keep_drew ?_ | refine keep_alloc ?_ | refine keep_set ?_ (by first | exact hnx | exact hny | exact hnx1 | exact hny1))))) (first | (go_at_call 37; refine (place_calls _ _ _).mono ?_; rintro e w' ⟨rfl, rfl⟩))
          all_goals
            go_wp2_with fail
            refine (HPUT.out y1 0 0 y1 y2 ⟨by omega, by omega⟩ huy.out Bs Bb W.heap.size hBs t HT.out _ ?sz ?md).mono ?_
            case sz => have := HBE.out.size; simp; omega
            case md => exact (by repeat (first | exact HMID.out | refine mid_drew ?_ | refine mid_alloc _ ?_))
            rintro e w3 ⟨rfl, hm3, hb3⟩
            have hb4 : Below W.heap.size W w3 := Below.trans (by repeat (first | exact HBE.out | refine Below.drew ?_ | refine Below.alloc ?_ ?_ _ | (have := HBE.out.size; simp; omega))) hb3
            clear hb3
            go_wp2
            go_roundg (gk - 1)
            case measure => have := HK.out; omega
            case rel => exact ⟨(x1, x2) :: a1, b1, t ++ emit y1 (F 0 y2), by have := HK.out; simp; omega, HSA.out, HVB.out, HUA0.out, HUB.out, hm3, by rw [List.append_assoc, ← merge_gt (x := (x1, x2)) (y := (y1, y2)) HLT.out]; exact HR.out, hb4⟩
end Go.Proofs.YtecfjjpdlohmnaaDoor.BitStep
