/- Walks over flat.Fields$1, slices.Grow, slices.Concat and flat.each at []int. -/
import Derived.Test.YtindpgejnaofkaaFlQ
import Derived.Lib.AppendZeros
namespace Go.Proofs.Ytindpgejnaofkaa.FlW
open Go.RowKit Go.Lib Go.Shelf SetP IntO TyM TyP TyB TyC TyD TyE TyS TyF TyH TyK TyW TyRT FlM FlP FlQ Fresh

theorem alone_calls (k : Int) (w : World) : Calls Try.prog 25 #[.int .i64 k] w (OwnI [k] w) := by
  have HO := hid (ownsRow_lit w [.int .i64 k] 3 1 rfl (by decide))
  have hb : Below w.heap.size w (w.alloc (.cells #[.int .i64 k] 3)) := (Below.refl _ _).alloc (Nat.le_refl _) _
  go_enter Try.func25, Try.ntmps25
  go_wp2
  go_ret
  exact ⟨_, 1, rfl, HO.out, hb⟩

set_option maxHeartbeats 400000 in
theorem grow_calls (n : Nat) (hn : n ≤ 100000) (w : World) : Calls Try.prog 43 #[.slice none 0 0, .int .i64 n] w (OwnI [] w) := by
  obtain ⟨i0, hi, hz0, hz1, hz2⟩ := info_parts info_int
  by_cases h0 : n = 0
  · subst h0
    go_enter Try.func43, Try.ntmps43
    go_wp2
    go_ret
    exact ⟨_, 0, rfl, World.ownsRow_nil _ _ _ _, Below.refl _ _⟩
  · have hpos : (0 : Int) < n := by omega
    have hr := Lib.run_append_nil_zeros (P := Try.prog) w 27 3 27 3 i0 (.int .i64 0) .i64 .i64 Try.underlying27 Try.underlying3 hi hz0 n (by omega) (by omega) (by omega) (by rw [hz2]; omega)
    have hge := grownCap_ge w n 0 3
    have hmx := grownCap_le_maxLen w n 0 3 (by unfold maxLen; omega)
    have HOWN := hid (World.ownsRow_made (base := w.heap.size) (e := 3) (size := 1) w.drew (Builtin.zeroCells (Value.int .i64 0).cells n ++ Builtin.zeroCells (Value.int .i64 0).cells (grownCap w n 0 3 - n)) (grownCap w n 0 3) (Nat.le_refl _) hmx (by rw [Array.size_append, size_zeroCells, size_zeroCells]; simp [Value.cells]; omega))
    have hb : Below w.heap.size w (w.drew.alloc (.cells (Builtin.zeroCells (Value.int .i64 0).cells n ++ Builtin.zeroCells (Value.int .i64 0).cells (grownCap w n 0 3 - n)) 3)) := (Below.refl _ _).drew.alloc (Nat.le_refl _) _
    have HR := hid hr
    clear hr hi
    generalize grownCap w n 0 3 = gc at *
    go_enter Try.func43, Try.ntmps43
    go_wp2_with (at_builtin; refine Lib.wpList_append_run _ rfl _ _ _ _ rfl _ _ rfl rfl _ _ HR.out ?_)
    go_wp2
    go_ret
    exact ⟨_, 0, rfl, HOWN.out, hb⟩

/-- a list, and its value -/
abbrev IRow := List Int × Value
/-- lists that a call owns, in a row that it owns -/
def OwnR (B : Nat) (u : Value) (r : List IRow) (w : World) : Prop :=
  w.ownsRow B 27 1 u r.length (r.map Prod.snd) ∧ ∀ x ∈ r, w.ownsRow B 3 1 x.2 x.1.length (intVals x.1)
theorem OwnR.below {B : Nat} {u : Value} {r : List IRow} {w w' : World} (h : OwnR B u r w) (hb : Below w.heap.size w w') : OwnR B u r w' := ⟨ownsRow_below h.1 hb, fun x hx => ownsRow_below (h.2 x hx) hb⟩
theorem OwnR.base {B C : Nat} {u : Value} {r : List IRow} {w : World} (h : OwnR B u r w) (hb : C ≤ B) : OwnR C u r w := ⟨owns_base h.1 hb, fun x hx => owns_base (h.2 x hx) hb⟩
theorem info_ints : (Try.prog.info? 27).map (fun i => (i.zero, i.size, i.bytes)) = some (some (.slice none 0 0), 1, 24) := by kernel_rfl
theorem own_len {w : World} {B m : Nat} {e : TypeId} {v : Value} {l : List Int} (h : w.ownsRow B e 1 v m (intVals l)) : m = l.length := by
  have := h.1; rw [intVals_length] at this; omega
theorem own_slice {w : World} {B m s : Nat} {e : TypeId} {v : Value} {xs : List Value} (h : w.ownsRow B e s v m xs) : ∃ a c, v = .slice a m c := by
  rcases h.2 with ⟨rfl, h0⟩ | ⟨_, _, _, rfl, _⟩
  · have h1 := h.1
    rw [h0] at h1 ⊢
    exact ⟨_, _, rfl⟩
  · exact ⟨_, _, rfl⟩
/-- a row of another type is kept where a row grows -/
theorem own_kept1 {w w' : World} {B C m n s1 s2 : Nat} {e f : TypeId} {u v : Value} {xs ys : List Value} (h : w.ownsRow B e s1 v n xs) (ho : w.ownsRow C f s2 u m ys) (hef : e ≠ f) (hg : w.grownBy w' u.ownBlock) : w'.ownsRow B e s1 v n xs := by
  refine h.kept hg ?_
  rcases ho.2 with ⟨rfl, _⟩ | ⟨g, cap, cur, rfl, _⟩
  · cases hxv : v.ownBlock with
    | none => exact .inl rfl
    | some g => exact .inr (by simp [Value.ownBlock])
  · exact .inr (by simpa [Value.ownBlock] using own_ne h ho hef)
def RowsR (ls : List (List Int)) (w : World) (e : Ending) (w' : World) : Prop := ∃ u r, e = .returned u ∧ r.map Prod.fst = ls ∧ OwnR w.heap.size u r w' ∧ Below w.heap.size w w'
/-- the first k of them -/
def MidW (w : World) (ls : List (List Int)) (k : Nat) (u : Value) (wr : World) : Prop := ∃ r : List IRow, r.map Prod.fst = ls.take k ∧ OwnR w.heap.size u r wr ∧ Below w.heap.size w wr

/-- the walk that gathers -/
abbrev fieldsV (tv : Value) : Value := .agg #[tv, .func (.func 25) #[] #[], .func (.func 26) #[] #[]]

set_option maxHeartbeats 1000000 in
theorem eachW_calls (tv : Value) (va : Value) (l : List Int) (g : Int → List Int) (w : World) (hl : IntsAt w va l) (hlen : l.length ≤ 1000)
    (hof : ∀ p ∈ l, ∀ wx, Below w.heap.size w wx → Calls Try.prog 27 #[fieldsV tv, .int .i64 p] wx (OwnI (g p) wx)) :
    Calls Try.prog 44 #[va, .func (.func 27) #[fieldsV tv] #[]] w (RowsR (l.map g) w) := by
  obtain ⟨i0, hi, hz0, hz1, hz2⟩ := info_parts info_ints
  have HL := hid hl
  have HOF := hid hof
  obtain ⟨ao, cap, rfl, hll⟩ := ints_slice hl
  clear hl hof
  obtain ⟨mc, HM⟩ : ∃ mc : List Value, Hid (mc.length = l.length ∧ ∀ wx : World, (Instr.makeSlice 65 (.int .i64 0) (.int .i64 (l.length : Int))).run Try.prog wx = .ok (.slice (some ⟨wx.heap.size, 0, none⟩) 0 l.length) (wx.alloc (.cells mc.toArray 27))) := by
    refine ⟨(madeCells (Value.slice none 0 0).cells l.length).toList, by rw [Array.length_toList, size_madeCells], fun wx => ?_⟩
    have := run_make (P := Try.prog) wx 65 27 i0 (.slice none 0 0) Try.underlying65 hi hz0 .i64 .i64 0 l.length (by omega) (by omega) (by rw [hz2]; omega) (by omega)
    rw [hz1, Int.toNat_natCast, Nat.mul_one] at this
    rw [Array.toArray_toList]
    exact this
  have hmk := HM.out.2
  have HMID : Hid (MidW w (l.map g) 0 (.slice (some ⟨w.heap.size, 0, none⟩) 0 l.length) (w.alloc (.cells mc.toArray 27))) :=
    ⟨[], rfl, ⟨World.ownsRow_made (base := w.heap.size) (e := 27) (size := 1) w mc.toArray l.length (Nat.le_refl _) (by unfold maxLen; omega) (by simpa using HM.out.1), by simp⟩, (Below.refl _ _).alloc (Nat.le_refl _) _⟩
  go_enter Try.func44, Try.ntmps44
  go_wp2
  go_loopg [5, 13] l.length (fun gk u i wr => ∃ k : Nat, k + gk = l.length ∧ i = .int .i64 k ∧ MidW w (l.map g) k u wr)
  case atStart => exact ⟨0, by omega, rfl, HMID.out⟩
  case round =>
    obtain ⟨k, hk, rfl, hmid⟩ := hrel
    have HK := hid hk
    have HO := hid hmid
    clear hmk
    by_cases hlt : k < l.length
    · obtain ⟨r, hr, hown, hbe⟩ := hmid
      obtain ⟨b, off, rfl, hbs, hc⟩ := ints_at (HL.out.below hbe) k hlt
      have HC := hid (HOF.out _ (List.getElem_mem hlt) wr hbe)
      have HT : Hid ((l.map g).take (k + 1) = (l.map g).take k ++ [g l[k]]) := by show _ = _; rw [List.take_succ_eq_append_getElem (by simpa using hlt), List.getElem_map]
      have HR := hid hr
      have hrl : r.length ≤ 1000 := by have := congrArg List.length hr; simp at this; omega
      have HOWN := hid hown
      clear hk hown hr HO HMID
      generalize l[k] = p at *
      generalize g p = q at *
      go_wp2_with fail
      refine HC.out.mono ?_
      rintro e w1 ⟨v, m, rfl, hv, hb1⟩
      obtain rfl := own_len hv
      obtain ⟨va, vc, rfl⟩ := own_slice hv
      have hbe1 := hbe.trans (hb1.mono hbe.size)
      have HV := hid (owns_base hv hbe.size)
      have hb2 := hbe1.alloc hbe1.size (.cells #[.slice va q.length vc] 27)
      have hsz : w.heap.size ≤ (w1.alloc (.cells #[.slice va q.length vc] 27)).heap.size := hb2.size
      have HB2 := hid hb2
      have hOw := HOWN.out.below hb1
      have ho1 := hOw.1.alloc (.cells #[.slice va q.length vc] 27)
      have HO1 := hid ho1
      have HO2 := hid (fun y hy => (hOw.2 y hy).alloc (.cells #[.slice va q.length vc] 27))
      have HV1 := hid (HV.out.alloc (.cells #[.slice va q.length vc] 27))
      have hcell : ∀ j u, [Value.slice va q.length vc][j]? = some u → (w1.alloc (.cells #[.slice va q.length vc] 27)).cell? ((⟨w1.heap.size, 0, none⟩ : Addr).add j) = some u := fun j u hj => one_cell (b := w1.heap.size) (x := Value.slice va q.length vc) (by simp) hj
      have HCELL := hid hcell
      clear hv hb1 hb2 hOw ho1 hcell HC HOWN HV
      go_wp2_with (at_builtin; refine wpList_append_own _ rfl (.tmp 17) (.tmp 21) 65 rfl w.heap.size 27 i0 (.slice none 0 0) 1 24 Try.underlying65 hi hz0 hz1 hz2 rfl (by decide) _ r.length (r.map Prod.snd) rfl HO1.out ⟨w1.heap.size, 0, none⟩ 1 1 [.slice va q.length vc] rfl rfl HCELL.out (by simp [Value.oneCell']) (by unfold maxLen; omega) (by omega) hsz ?_)
      intro v' w2 hown2 hgr _
      have hfin : MidW w (l.map g) (k + 1) v' w2 := by
        refine ⟨r ++ [(q, .slice va q.length vc)], by rw [List.map_append, HR.out, HT.out]; rfl, ⟨?_, fun y hy => ?_⟩, own_grown HB2.out HO1.out hgr hsz⟩
        · rw [List.length_append, List.map_append]; exact hown2
        · rcases List.mem_append.1 hy with hy | hy
          · exact own_kept1 (HO2.out y hy) HO1.out (by decide) hgr
          · rw [List.mem_singleton.1 hy]
            exact own_kept1 HV1.out HO1.out (by decide) hgr
      have HF := hid hfin
      clear hown2 hgr HO1 HO2 HV1 HCELL hfin
      go_wp2
      go_roundg (gk - 1)
      case measure => have := HK.out; omega
      case rel => exact ⟨k + 1, by have := HK.out; omega, by go_num, HF.out⟩
    · obtain rfl : k = l.length := by omega
      have HTL : Hid ((l.map g).take l.length = l.map g) := List.take_of_length_le (by simp)
      clear hk hmid
      generalize l.length = n at *
      go_wp2
      go_ret
      obtain ⟨r, hr, ho, hb⟩ := HO.out
      exact ⟨_, r, rfl, by rw [hr]; exact HTL.out, ho, hb⟩

theorem flat_take {ls : List (List Int)} {k : Nat} (h : k < ls.length) : (ls.take (k + 1)).flatten = (ls.take k).flatten ++ ls[k] := by
  rw [List.take_succ_eq_append_getElem h, List.flatten_append]; simp
theorem flat_part (ls : List (List Int)) (k : Nat) : (ls.take k).flatten.length ≤ ls.flatten.length := by
  have : ls.flatten = (ls.take k).flatten ++ (ls.drop k).flatten := by rw [← List.flatten_append, List.take_append_drop]
  rw [this, List.length_append]; omega
/-- one of the lists, in memory -/
theorem OwnR.at {B : Nat} {ao : Option Addr} {n c : Nat} {r : List IRow} {w : World} (h : OwnR B (.slice ao n c) r w) (k : Nat) (hk : k < r.length) :
    ∃ g, ao = some ⟨g, 0, none⟩ ∧ g < w.heap.size ∧ ∃ a c', r[k].2 = .slice a r[k].1.length c' ∧ w.cell? ⟨g, k, none⟩ = some (.slice a r[k].1.length c') ∧ w.ownsRow B 3 1 (.slice a r[k].1.length c') r[k].1.length (intVals r[k].1) := by
  obtain ⟨g', c', he, _, hg, _, hc⟩ := row_cells h.1 (by rw [List.length_map]; omega)
  cases he
  have hx := h.2 _ (List.getElem_mem hk)
  obtain ⟨a, c2, hv⟩ := own_slice hx
  have := hc k r[k].2 (by simp [hk])
  rw [hv] at this hx
  exact ⟨g', rfl, hg, a, c2, hv, this, hx⟩

set_option maxHeartbeats 1000000 in
theorem concat_calls (u : Value) (r : List IRow) (B : Nat) (w : World) (hr : OwnR B u r w) (hlen : r.length ≤ 1000) (htot : (r.map Prod.fst).flatten.length ≤ 50000) :
    Calls Try.prog 26 #[u] w (OwnI (r.map Prod.fst).flatten w) := by
  have HR := hid hr
  obtain ⟨ua, uc, rfl⟩ := own_slice hr.1
  have HP := hid (flat_part (r.map Prod.fst))
  have HS := hid (fun k (hk : k < r.length) => (flat_take (ls := r.map Prod.fst) (k := k) (by simpa using hk)).trans (by rw [List.getElem_map]))
  have HG := hid (fun n hn wx => grow_calls n hn wx)
  clear hr
  go_enter Try.func26, Try.ntmps26
  go_wp2
  go_loopg [3, 11] r.length (fun gk m i wr => ∃ k : Nat, k + gk = r.length ∧ i = .int .i64 k ∧ m = .int .i64 ((((r.map Prod.fst).take k).flatten.length : Nat) : Int) ∧ Below w.heap.size w wr)
  case atStart => exact ⟨0, by omega, rfl, by simp, Below.refl _ _⟩
  case round =>
    obtain ⟨k, hk, rfl, rfl, hbe⟩ := hrel
    have HK := hid hk
    by_cases hlt : k < r.length
    · obtain ⟨g, rfl, hg, a, c, hv, hc, ho⟩ := (HR.out.below (hbe.mono (Nat.le_refl _))).at k hlt
      have HS2 := hid (HS.out k hlt)
      have hp := HP.out k
      have hp2 := HP.out (k + 1)
      rw [HS2.out, List.length_append] at hp2
      have HS3 := hid (congrArg List.length HS2.out)
      rw [List.length_append] at HS3
      clear hk ho hv
      generalize r[k].1.length = q at *
      generalize ((r.map Prod.fst).take k).flatten.length = s at *
      go_wp2
      go_roundg (gk - 1)
      case measure => have := HK.out; omega
      case rel => exact ⟨k + 1, by have := HK.out; omega, by go_num, by rw [HS3.out]; go_num, hbe⟩
    · obtain rfl : k = r.length := by omega
      have HT : Hid ((r.map Prod.fst).take r.length = r.map Prod.fst) := List.take_of_length_le (by simp)
      rw [HT.out]
      have HG1 := hid (HG.out (r.map Prod.fst).flatten.length (by omega) wr)
      clear hk HG
      generalize hft : (r.map Prod.fst).flatten.length = tot at *
      have HFT := hid hft
      clear hft
      go_wp2_with fail
      refine HG1.out.mono ?_
      rintro e w1 ⟨v, m, rfl, hv, hb1⟩
      have hbe1 := hbe.trans (hb1.mono hbe.size)
      have HV := hid (owns_base hv hbe.size)
      clear hv hb1 hbe HG1
      obtain rfl : m = 0 := own_len (l := []) HV.out
      go_wp2
      go_loopg [6, 27] r.length (fun gk u i wr => ∃ (k m : Nat), k + gk = r.length ∧ i = .int .i64 k ∧ wr.ownsRow w.heap.size 3 1 u m (intVals ((r.map Prod.fst).take k).flatten) ∧ Below w.heap.size w wr)
      case atStart => exact ⟨0, 0, by omega, rfl, HV.out, hbe1⟩
      case round =>
        obtain ⟨k, m, hk, rfl, hown, hbe⟩ := hrel
        have HK := hid hk
        obtain rfl := own_len hown
        have hp := HP.out k
        have HO := hid hown
        clear hown
        by_cases hlt : k < r.length
        · obtain ⟨g, rfl, hg, a, c, hv, hc, ho⟩ := (HR.out.below (hbe.mono (Nat.le_refl _))).at k hlt
          have HS2 := hid (HS.out k hlt)
          have hp2 := HP.out (k + 1)
          rw [HS2.out, List.length_append] at hp2
          have HI := hid (intsAt_of_owns ho (by omega))
          have hsz := hbe.size
          have HBE := hid hbe
          clear hk ho hv hbe
          generalize r[k].1 = q at *
          generalize hse : ((r.map Prod.fst).take k).flatten = s at *
          have HSE := hid hse
          clear hse
          go_wp2_with (at_builtin; refine wpList_append_ints rfl (.tmp 31) (.tmp 32) rfl w.heap.size _ rfl s.length _ HO.out (by omega) (.slice a q.length c) q rfl HI.out (by omega) hsz ?_)
          intro v' w2 hown2 hgr
          have HB3 := hid (own_grown HBE.out HO.out hgr hsz)
          have HO2 := hid hown2
          clear hown2 hgr
          go_wp2
          go_roundg (gk - 1)
          case measure => have := HK.out; omega
          case rel => exact ⟨k + 1, s.length + q.length, by have := HK.out; omega, by go_num, by rw [HS2.out, intVals_append]; exact HO2.out, HB3.out⟩
        · obtain rfl : k = r.length := by omega
          rw [HT.out] at HO
          clear hk
          go_wp2
          go_ret
          exact ⟨_, _, rfl, HO.out, hbe⟩
end Go.Proofs.Ytindpgejnaofkaa.FlW
