/- Walks over slices.Clone and types.Twin. -/
import Derived.Test.YtaegidmodenomaaDoorTyTP
import Derived.WalkSpells
import Derived.Laws.NewBlocks
namespace Go.Proofs.YtaegidmodenomaaDoor.TyT
open Go.RowKit Go.Lib SetP IntO TyM TyP TyB TyW

/-- a list, copied -/
def CloneI (l : List Int) (w : World) (e : Ending) (w' : World) : Prop := ∃ u m, e = .returned u ∧ w'.ownsRow w.heap.size 3 1 u m (intVals l) ∧ Below w.heap.size w w'

set_option maxHeartbeats 400000 in
theorem cloneInts_calls (v : Value) (l : List Int) (w : World) (hl : IntsAt w v l) (hlen : l.length ≤ 100000) : Calls Tryd.prog 46 #[v] w (CloneI l w) := by
  have HL := hid hl
  have hz : ∀ ao n c, v = .slice ao n c → ao = none → l = [] := by
    rintro ao n c rfl rfl
    obtain ⟨ao', cap', hv, _, hm, _⟩ := hl
    cases hv
    cases l with
    | nil => rfl
    | cons x l => obtain ⟨_, _, h, _⟩ := hm (by simp); cases h
  obtain ⟨ao, cap, rfl, hll⟩ := ints_slice hl
  have HZ := hid (hz ao _ _ rfl)
  have hcap0 : ao = none → cap = 0 := by
    intro h
    obtain ⟨ao', cap', hv, _, _, hz, _⟩ := hl
    cases hv
    exact hz h
  clear hl hz
  cases ao with
  | none =>
    obtain rfl := HZ.out rfl
    obtain rfl := hcap0 rfl
    clear hcap0 HZ
    have hnil := fun (w : World) (a : Option Addr) (n c : Nat) => Lib.run_eql_slice_nil (P := Tryd.prog) w 23 3 a n c 0 0 Tryd.underlying23
    go_enter Tryd.func46, Tryd.ntmps46
    go_wp2
    go_ret
    exact ⟨_, 0, rfl, World.ownsRow_nil _ _ _ _, Below.refl _ _⟩
  | some ad =>
    clear hcap0 HZ
    have hb0 : Below w.heap.size w (w.alloc (.cells #[] 3)) := (Below.refl _ _).alloc (Nat.le_refl _) _
    have HL2 := hid (HL.out.below hb0)
    have HOWN := hid (World.ownsRow_made (base := w.heap.size) (e := 3) (size := 1) w #[] 0 (Nat.le_refl _) (by decide) (by simp))
    have hsz : w.heap.size ≤ (w.alloc (.cells #[] 3)).heap.size := by simp
    have hnil := fun (w : World) (a : Option Addr) (n c : Nat) => Lib.run_eql_slice_nil (P := Tryd.prog) w 23 3 a n c 0 0 Tryd.underlying23
    go_enter Tryd.func46, Tryd.ntmps46
    go_wp2_with (at_builtin; refine wpList_clone_ints rfl _ _ rfl w.heap.size (.slice (some ⟨w.heap.size, 0, none⟩) 0 0) rfl HOWN.out (.slice (some ad) l.length cap) l rfl HL2.out hlen hsz ?_)
    intro v' m w' hown' hb'
    go_wp2
    go_ret
    exact ⟨v', m, rfl, hown', hb0.trans hb'⟩

/-- a table, copied; its types' parts are the old ones -/
def CloneR (t : List Ty) (w : World) (e : Ending) (w' : World) : Prop :=
  ∃ u r, e = .returned u ∧ r.map Prod.fst = t ∧ w'.ownsRow w.heap.size 65 4 u r.length (rowVals r) ∧ (∀ x ∈ r, IntsAt w x.2 x.1.parts) ∧ Below w.heap.size w w'

set_option maxHeartbeats 400000 in
theorem cloneTys_calls (v : Value) (t : List Ty) (w : World) (ht : TysAt w v t) (hlen : t.length ≤ 100000) : Calls Tryd.prog 73 #[v] w (CloneR t w) := by
  obtain ⟨r, ao, cap, rfl, rfl, hz, hcap, hints, hcell⟩ := tys_rows ht
  rw [List.length_map] at hlen
  have HI := hid hints
  have HC := hid hcell
  have hnil := fun (w : World) (a : Option Addr) (n c : Nat) => Lib.run_eql_slice_nil (P := Tryd.prog) w 26 65 a n c 0 0 Tryd.underlying26
  clear ht
  cases ao with
  | none =>
    obtain rfl := hz rfl
    have hr0 : r = [] := by
      by_cases hp : 0 < r.length
      · obtain ⟨b, off, hb, _⟩ := hcell hp
        cases hb
      · exact List.eq_nil_of_length_eq_zero (by omega)
    subst hr0
    clear hcell hints hz
    go_enter Tryd.func73, Tryd.ntmps73
    go_wp2
    go_ret
    exact ⟨_, [], rfl, rfl, World.ownsRow_nil _ _ _ _, (by simp), Below.refl _ _⟩
  | some ad =>
    have HR1 : Hid (∀ x ∈ r, ∃ a n c, x.2 = .slice a n c) := fun x hx => by obtain ⟨a, c, h, _⟩ := ints_slice (HI.out x hx); exact ⟨a, _, c, h⟩
    have hb0 : Below w.heap.size w (w.alloc (.cells #[] 65)) := (Below.refl _ _).alloc (Nat.le_refl _) _
    have HC2 : Hid (0 < r.length → ∃ b off, some ad = some ⟨b, off, none⟩ ∧ ∀ j u, (rowVals r)[j]? = some u → (w.alloc (.cells #[] 65)).cell? ⟨b, off + j, none⟩ = some u) := fun hp => by
      obtain ⟨b, off, h1, h2, h3⟩ := HC.out hp
      exact ⟨b, off, h1, fun j u hj => (hb0.cell (p := ⟨b, off + j, none⟩) h2).trans (h3 j u hj)⟩
    have HOWN := hid (World.ownsRow_made (base := w.heap.size) (e := 65) (size := 4) w #[] 0 (Nat.le_refl _) (by decide) (by simp))
    have hsz : w.heap.size ≤ (w.alloc (.cells #[] 65)).heap.size := by simp
    clear hcell hints hz
    go_enter Tryd.func73, Tryd.ntmps73
    go_wp2_with (at_builtin; refine wpList_clone_tys rfl _ _ rfl w.heap.size (.slice (some ⟨w.heap.size, 0, none⟩) 0 0) rfl 0 [] HOWN.out (by omega) (some ad) cap r rfl HR1.out (fun h => by cases h) HC2.out hlen hsz ?_)
    intro v' w' hown' hgrow
    have hbe := hb0.grown hgrow (by simp) (fun g hg => by simp [Value.ownBlock] at hg; omega)
    clear hgrow
    go_wp2
    go_ret
    exact ⟨v', r, rfl, rfl, by simpa using hown', HI.out, hbe⟩

/-- a twin on its way: the first k types' parts are the call's own -/
def MidT (w : World) (t : List Ty) (k : Nat) (u : Value) (wr : World) : Prop :=
  ∃ r : List Row, r.map Prod.fst = t ∧ wr.ownsRow w.heap.size 65 4 u r.length (rowVals r) ∧ (∀ i (h : i < r.length), if i < k then wr.ownsRow w.heap.size 3 1 r[i].2 r[i].1.parts.length (intVals r[i].1.parts) else IntsAt w r[i].2 r[i].1.parts) ∧ Below w.heap.size w wr

theorem mid_step {w wr w1 : World} {t : List Ty} {k g cap m : Nat} {v : Value} (hk : k < t.length) (h : MidT w t k (.slice (some ⟨g, 0, none⟩) t.length cap) wr) (hb : Below wr.heap.size wr w1) (hv : w1.ownsRow w.heap.size 3 1 v m (intVals t[k].parts)) :
    MidT w t (k + 1) (.slice (some ⟨g, 0, none⟩) t.length cap) (w1.setCell ⟨g, k * 4 + 3, none⟩ v) := by
  obtain ⟨r, rfl, ho, hp, hbe⟩ := h
  have hkr : k < r.length := by simpa using hk
  have hlen : r.length = (r.map Prod.fst).length := by simp
  rw [← hlen] at ho ⊢
  have ho1 := ownsRow_below ho hb
  obtain ⟨hs, hgr⟩ := ho1.stored (k * 4 + 3) v
  have hgB : w.heap.size ≤ g := by
    rcases ho.2 with ⟨hh, _⟩ | ⟨g2, _, _, hh, hg, _⟩
    · cases hh
    · cases hh; exact hg
  refine ⟨r.set k (r[k].1, v), map_set hkr v, ?_, fun i hi => ?_, (hbe.trans (hb.mono hbe.size)).setCell (p := ⟨g, k * 4 + 3, none⟩) hgB v⟩
  · rw [set_len, ← vals_set r k hkr]; exact hs
  · rw [set_len] at hi
    rw [List.getElem_set]
    by_cases e : k = i
    · subst e
      rw [if_pos rfl, if_pos (by omega)]
      have hne := own_ne hv ho1 (by decide)
      have := hv.kept hgr (.inr hne)
      have hm : m = r[k].1.parts.length := by
        have := hv.1
        rw [intVals_length] at this
        simp at this
        omega
      simp at this
      rw [← hm]
      exact this
    · rw [if_neg e]
      have hpi := hp i hi
      by_cases hik : i < k
      · rw [if_pos hik] at hpi
        rw [if_pos (by omega)]
        have h1 := ownsRow_below hpi hb
        exact h1.kept hgr (.inr (own_ne h1 ho1 (by decide)))
      · rw [if_neg hik] at hpi
        rw [if_neg (by omega)]
        exact hpi

set_option maxHeartbeats 1000000 in
theorem twin_calls (v : Value) (t : List Ty) (w : World) (ht : TysAt w v t) (hlen : t.length ≤ 100000) (hp : ∀ x ∈ t, x.parts.length ≤ 100000) : Calls Tryd.prog 42 #[v] w (TwinR t w) := by
  have HC := hid (cloneTys_calls v t w ht hlen)
  obtain ⟨ao, cap, rfl⟩ := ht.slice
  have HP := hid hp
  clear ht hp
  go_enter Tryd.func42, Tryd.ntmps42
  go_wp2_with fail
  refine HC.out.mono ?_
  rintro e w1 ⟨u, r, rfl, hr, hown, hints, hb1⟩
  have hmid : MidT w t 0 u w1 := ⟨r, hr, hown, fun i hi => by rw [if_neg (by omega)]; exact hints _ (List.getElem_mem hi), hb1⟩
  have hrl : r.length = t.length := by rw [← hr]; simp
  by_cases h0 : 0 < t.length
  · obtain ⟨g, cap2, rfl, hg, hgl, hn, _⟩ := row_cells hown (by rw [rowVals_length]; omega)
    rw [hrl] at hmid ⊢
    have HM := hid hmid
    clear hmid hown hints hr hrl HC hb1 hn
    go_wp2
    go_loopg [9] t.length (fun gk i wr => ∃ k : Nat, k + gk = t.length ∧ i = .int .i64 k ∧ MidT w t k (.slice (some ⟨g, 0, none⟩) t.length cap2) wr)
    case atStart => exact ⟨0, by omega, rfl, HM.out⟩
    case round =>
      obtain ⟨k, hk, rfl, hmid⟩ := hrel
      have HK := hid hk
      have HM2 := hid hmid
      clear hk
      by_cases hlt : k < t.length
      · obtain ⟨r2, hr2, ho2, hp2, hbe2⟩ := hmid
        have hk2 : k < r2.length := by rw [← hr2] at hlt; simpa using hlt
        have hr2l : r2.length = t.length := by rw [← hr2]; simp
        have hpk := hp2 k hk2
        rw [if_neg (by omega)] at hpk
        rw [hr2l] at ho2
        have c3 := ho2.cellAt (k * 4 + 3) (by omega)
        rw [(rowVals_at r2 k hk2).2.2.2] at c3
        have hre : r2[k].1 = t[k] := by subst hr2; simp
        rw [hre] at hpk
        have HCL := hid (cloneInts_calls r2[k].2 t[k].parts wr (hpk.below hbe2) (HP.out _ (List.getElem_mem hlt)))
        have HST := hid (fun w1 v m hb hv => mid_step (w1 := w1) (v := v) (m := m) hlt HM2.out hb hv)
        have HF := hid (fun j => ho2.frozenAt j)
        have HO := hid ho2
        have HBE := hid hbe2.size
        obtain ⟨pa, pc, hpv, hpl⟩ := ints_slice hpk
        rw [hpv] at c3 HCL
        generalize t[k].parts.length = pl at *
        clear ho2 hp2 hpk hre hpv hr2 hr2l hk2 hbe2 HM
        have HTK : Hid (∃ ps, t[k].parts = ps) := ⟨_, rfl⟩
        go_wp2_with fail
        refine HCL.out.mono ?_
        rintro e w3 ⟨pv, m, rfl, hpo, hb3⟩
        have hfz := (ownsRow_below HO.out hb3).frozenAt (k * 4 + 3)
        have hcc := (hb3.cell (p := ⟨g, k * 4 + 3, none⟩) (World.block_lt_of_cell? wr _ c3)).trans c3
        have HST2 := hid (HST.out w3 pv m hb3 (owns_base hpo HBE.out))
        have hpf : ∃ a n c, pv = .slice a n c := by
          rcases hpo.2 with ⟨rfl, _⟩ | ⟨_, _, _, rfl, _⟩
          · exact ⟨_, _, _, rfl⟩
          · exact ⟨_, _, _, rfl⟩
        obtain ⟨qa, qn, qc, rfl⟩ := hpf
        clear hpo hb3 HST
        go_wp2
        go_roundg (gk - 1)
        case measure => have := HK.out; omega
        case rel => exact ⟨k + 1, by have := HK.out; omega, by go_num, HST2.out⟩
      · obtain rfl : k = t.length := by have := HK.out; omega
        clear hmid
        generalize hn : t.length = n at *
        have HN := hid hn
        clear hn
        go_wp2
        go_ret
        obtain ⟨r3, h1, h2, h3, h4⟩ := HM2.out
        have hl3 : r3.length = n := by rw [← HN.out, ← h1]; simp
        refine ⟨_, r3, rfl, h1, ⟨by rw [hl3]; rw [hl3] at h2; exact h2, fun x hx => ?_⟩, h4⟩
        obtain ⟨i, hi, rfl⟩ := List.mem_iff_getElem.1 hx
        have := h3 i hi
        rwa [if_pos (by omega)] at this
  · obtain rfl : t = [] := List.eq_nil_of_length_eq_zero (by omega)
    obtain rfl : r = [] := List.map_eq_nil_iff.1 hr
    have hu : ∃ a c, u = .slice a 0 c := by
      rcases hown.2 with ⟨rfl, _⟩ | ⟨_, _, _, rfl, _⟩
      · exact ⟨_, _, rfl⟩
      · exact ⟨_, _, rfl⟩
    obtain ⟨ua, uc, rfl⟩ := hu
    have HO := hid hown
    clear hmid hown hints h0 hrl hr HC HP
    go_wp2
    go_loop [9] (fun i => i = .int .i64 0) (fun _ => 0)
    case atStart => exact rfl
    case round =>
      obtain rfl := hrel
      go_wp2
      go_ret
      exact ⟨_, [], rfl, rfl, ⟨HO.out, by simp⟩, hb1⟩
end Go.Proofs.YtaegidmodenomaaDoor.TyT
