/- Walks over types.Cells and its closure. -/
import Derived.Test.YtindpgejnaofkaaTyH
import Derived.Test.YtindpgejnaofkaaFresh
import Derived.Laws.EntriesVeiled
namespace Go.Proofs.Ytindpgejnaofkaa.TyK
open Go.RowKit Go.Lib Go.Shelf SetP IntO TyM TyP TyB TyC TyD TyE TyS TyF TyH Fresh

/-- the closure's value -/
abbrev walkV (bt bl bw : Nat) : Value := .func (.func 36) #[] #[.pointer (some ⟨bt, 0, none⟩), .pointer (some ⟨bl, 0, none⟩), .pointer (some ⟨bw, 0, none⟩)]
/-- what lies in memory while cells are gathered -/
def St (bt bl bw : Nat) (tv : Value) (w0 : World) (u : Value) (acc : List Int) (w : World) : Prop :=
  Boxed w bt 25 tv ∧ Boxed w bw 57 (walkV bt bl bw) ∧ Boxed w bl 27 u ∧ (∃ m, w.ownsRow w0.heap.size 3 1 u m (intVals acc)) ∧ Below w0.heap.size w0 w
/-- cells gathered -/
def WalkR (bt bl bw : Nat) (tv : Value) (w0 : World) (u : Value) (acc : List Int) (w : World) (e : Ending) (w' : World) : Prop :=
  e = .returned (.tuple #[]) ∧ ∃ u', St bt bl bw tv w0 u' acc w' ∧ Keeps2 bl u w w' ∧ NewRow w u u'

theorem St.below {bt bl bw : Nat} {tv : Value} {w0 : World} {u : Value} {acc : List Int} {w w' : World} (h : St bt bl bw tv w0 u acc w) (hb : Below w.heap.size w w') : St bt bl bw tv w0 u acc w' := by
  obtain ⟨h1, h2, h3, ⟨m, h4⟩, h5⟩ := h
  exact ⟨(hb.block _ h1.lt).trans h1, (hb.block _ h2.lt).trans h2, (hb.block _ h3.lt).trans h3, ⟨m, ownsRow_below h4 hb⟩, h5.trans (hb.mono h5.size)⟩

theorem cells_split (t : List Ty) (l : List Int) (k : Nat) : (cellsAll t (l.take k)).length ≤ (cellsAll t l).length := by
  have h : cellsAll t l = cellsAll t (l.take k) ++ cellsAll t (l.drop k) := by rw [← cellsAll_append, List.take_append_drop]
  rw [h, List.length_append]; omega

set_option maxHeartbeats 1000000 in
theorem walk_scalar (t : List Ty) (tv : Value) (w0 : World) (ht : TysAt w0 tv t) (bt bl bw : Nat) (hB : w0.heap.size ≤ bl) (hbt : bt ≠ bl) (hbw : bw ≠ bl)
    (k : Nat) (x : Ty) (hk : k < t.length) (hx : t[k]? = some x) (hs : scalarK x.kind = true) (u : Value) (acc : List Int) (hacc : acc.length ≤ 1000) (w : World) (hst : St bt bl bw tv w0 u acc w) :
    Calls Try.prog 36 #[.int .i64 k, .pointer (some ⟨bt, 0, none⟩), .pointer (some ⟨bl, 0, none⟩), .pointer (some ⟨bw, 0, none⟩)] w (WalkR bt bl bw tv w0 u (acc ++ cellsOf t k) w) := by
  obtain ⟨i0, hi, hz0, hz1, hz2⟩ := info_parts info_int
  have HST := hid hst
  obtain ⟨h1, h2, h3, ⟨m, h4⟩, h5⟩ := hst
  have hct := h1.cell
  have hT : TysAt w tv t := ht.below h5
  rw [cellsOf_scalar hx hs]
  have hparts := partsOf_scalar hs
  obtain ⟨to, tcap, rfl⟩ := ht.slice
  obtain ⟨tb, off, rfl, hlt, pv, c0, c1, c2, c3, hp⟩ := ht.at k hk
  obtain ⟨hk', hx'⟩ := List.getElem?_eq_some_iff.1 hx
  rw [hx'] at c0 c1 c2 hp
  have HP := hid hp
  have HPC := hid (fun wx hpx => parts_calls x pv wx hpx (fun h5 => by rw [h5] at hs; cases hs))
  rw [hparts] at HPC
  have HSC := hid (scalar_calls x pv w)
  rw [hs] at HSC
  have HQ := hid (And.intro c0 (And.intro c1 (And.intro c2 c3)))
  have hcb := bcell h5
  obtain ⟨pa, pc, rfl, hpl⟩ := ints_slice hp
  have HB := hid h5
  have HT := hid ht
  have hml : m ≤ 1000 := by have := h4.1; rw [intVals_length] at this; omega
  clear hp c0 c1 c2 c3 hx hx' hs hparts h2 hT h1 h3 h4 h5 ht
  have c0 := (hcb tb (off + k * 4) hlt).trans HQ.out.1
  have c1 := (hcb tb (off + k * 4 + 1) hlt).trans HQ.out.2.1
  have c2 := (hcb tb (off + k * 4 + 2) hlt).trans HQ.out.2.2.1
  have c3 := (hcb tb (off + k * 4 + 3) hlt).trans HQ.out.2.2.2
  clear hcb
  generalize t.length = n at *
  go_enter Try.func36, Try.ntmps36
  go_wp2_with fail
  refine HSC.out.mono ?_
  rintro e w1 ⟨rfl, hb1⟩
  have hst1 := HST.out.below hb1
  have HK1 := hid (Keeps2.below (bl := bl) (u := u) hb1)
  clear HSC c0 c1 c2 c3 hct
  obtain ⟨h1, h2, h3, ⟨m1, h4⟩, h5⟩ := hst1
  have hml1 : m1 ≤ 1000 := by have := h4.1; rw [intVals_length] at this; omega
  have hc3 := h3.cell
  have hsz1 := h5.size
  have HW1 := hid hb1.size
  clear hb1
  go_wp2_with (at_builtin; refine wpList_append_fresh _ rfl _ _ 27 rfl w0.heap.size 3 i0 (.int .i64 0) 1 8 Try.underlying27 hi hz0 hz1 hz2 rfl (by decide) u m1 (intVals acc) rfl (h4.alloc _) ⟨w1.heap.size, 0, none⟩ 1 1 [.int .i64 k] rfl rfl (cell_one_new _ _ _) (by simp [Value.oneCell']) (by unfold maxLen; omega) (by omega) (by simp; omega) ?_)
  intro v' w2 hown' hgrow hnew
  obtain ⟨g', cap', rfl⟩ := ownsRow_succ hown'
  obtain ⟨hv1, hv2, hr2, _, hb2⟩ := h3.appended (by decide) h4 hsz1 hB hown' hgrow
  have hcv := hv1.cell
  have hfv := hv1.frozen
  have K2 := Keeps2.append (bl := bl) (v' := .slice (some ⟨g', 0, none⟩) (m1 + 1) cap') hgrow
  have hbt2 := K2.boxed h1 hbt (fun e => h1.not_row (by decide) h4 e.symm)
  have hbw2 := K2.boxed h2 hbw (fun e => h2.not_row (by decide) h4 e.symm)
  have hbe := h5.trans hb2
  have HN := hid ((NewRow.refl w u).trans HW1.out hnew.alloc)
  have HST2 : Hid (St bt bl bw (.slice (some ⟨tb, off, none⟩) n tcap) w0 (.slice (some ⟨g', 0, none⟩) (m1 + 1) cap') (acc ++ [(k : Int)]) (w2.setCell ⟨bl, 0, none⟩ (.slice (some ⟨g', 0, none⟩) (m1 + 1) cap'))) :=
    ⟨hbt2, hbw2, hv2, ⟨m1 + 1, by rw [intVals_append]; exact hr2⟩, hbe⟩
  have HKK := hid (HK1.out.trans (NewRow.refl _ _) K2)
  have HPC2 := hid (HPC.out _ (HP.out.below hbe))
  have hct := hbt2.cell
  have hcb := bcell hbe
  have c0 := (hcb tb (off + k * 4) hlt).trans HQ.out.1
  have c1 := (hcb tb (off + k * 4 + 1) hlt).trans HQ.out.2.1
  have c2 := (hcb tb (off + k * 4 + 2) hlt).trans HQ.out.2.2.1
  have c3 := (hcb tb (off + k * 4 + 3) hlt).trans HQ.out.2.2.2
  clear hcb hnew hown' hgrow h1 h2 h3 h4 h5 hv1 hv2 hr2 hb2 K2 hbt2 hbw2 hbe HPC
  go_wp2_with fail
  refine HPC2.out.mono ?_
  rintro e w3 ⟨lv, rfl, hlv, hb3, _⟩
  obtain ⟨la, lc, rfl, _⟩ := ints_slice hlv
  have HST3 := hid (HST2.out.below hb3)
  have HK3 := hid (HKK.out.trans (HN.out) (Keeps2.below hb3))
  clear hlv c0 c1 c2 c3 hct hcv hfv HPC2 hb3 HST2 HKK
  go_wp2
  go_loop [22] (fun i => i = .int .i64 0) (fun _ => 0)
  case atStart => exact rfl
  case round =>
    obtain rfl := hrel
    go_wp2
    go_end0
    exact ⟨rfl, _, HST3.out, HK3.out, HN.out⟩

theorem away_of {w0 w1 w2 : World} {bl m : Nat} {lv pv u uv : Value} {l xp : List Int} {t : TypeId} {xs : List Value} (hl : IntsAt w2 lv l) (hp : IntsAt w0 pv xp) (h : lv = pv ∨ NewV w1 lv)
    (hbox : Boxed w1 bl t uv) (hown : w1.ownsRow w0.heap.size 3 1 u m xs) (hB : w0.heap.size ≤ bl) : Away bl u w2 lv := by
  intro g off n c e hn
  subst e
  obtain ⟨ao, cap, hv, _, hm, _⟩ := hl
  cases hv
  obtain ⟨b, o, hb, hlt, _⟩ := hm hn
  cases hb
  refine ⟨hlt, ?_⟩
  rcases h with h | h
  · subst h
    obtain ⟨ao, cap, hv, _, hm, _⟩ := hp
    have hv' := hv
    injection hv' with h1 h2 h3
    obtain ⟨b', o', hb', hlt', _⟩ := hm (by omega)
    rw [hb'] at h1
    cases h1
    refine ⟨by omega, fun e => ?_⟩
    rcases hown.2 with ⟨rfl, _⟩ | ⟨g', _, _, rfl, hg', _⟩
    · cases e
    · have : g' = g := by simpa [Value.ownBlock] using e
      omega
  · have hge := h g off _ _ rfl
    refine ⟨by have := hbox.lt; omega, fun e => ?_⟩
    rcases hown.2 with ⟨rfl, _⟩ | ⟨g', _, _, rfl, hg', hg2, _⟩
    · cases e
    · have h4 : g' = g := by simpa [Value.ownBlock] using e
      have := (Array.getElem?_eq_some_iff.1 hg2).1
      omega

set_option maxHeartbeats 2000000 in
theorem walk_any (N : Nat) : ∀ (t : List Ty) (tv : Value) (w0 : World), TysAt w0 tv t → Lows t t.length → ∀ (bt bl bw : Nat), w0.heap.size ≤ bl → bt ≠ bl → bw ≠ bl →
    ∀ (k : Nat), k < N → k < t.length → ∀ (u : Value) (acc : List Int), acc.length + (cellsOf t k).length ≤ 1000 → ∀ (w : World), St bt bl bw tv w0 u acc w →
    Calls Try.prog 36 #[.int .i64 k, .pointer (some ⟨bt, 0, none⟩), .pointer (some ⟨bl, 0, none⟩), .pointer (some ⟨bw, 0, none⟩)] w (WalkR bt bl bw tv w0 u (acc ++ cellsOf t k) w) := by
  induction N with
  | zero => intro t tv w0 ht hl bt bl bw hB hbt hbw k hk; omega
  | succ N ih =>
    intro t tv w0 ht hlow bt bl bw hB hbt hbw k hk hkt u acc hacc w hst
    obtain ⟨x, hx, hmay, _⟩ := goodB_iff.1 (hlow k hkt)
    cases hs : scalarK x.kind with
    | true => exact walk_scalar t tv w0 ht bt bl bw hB hbt hbw k x hkt hx hs u acc (by omega) w hst
    | false =>
      have hk45 : x.kind = 4 ∨ x.kind = 5 := by
        rcases mayX_kind hmay with h | h
        · rw [hs] at h; cases h
        · exact h
      have hcell := cellsOf_parts hx hk45 (mayX_low hmay)
      rw [hcell] at hacc ⊢
      have HLOW := hid (mayX_low hmay)
      have HIH := hid (fun (p : Nat) (hp : p < k) u' acc' (ha : acc'.length + (cellsOf t p).length ≤ 1000) wx hs' => ih t tv w0 ht hlow bt bl bw hB hbt hbw p (by omega) (by omega) u' acc' ha wx hs')
      have HST := hid hst
      obtain ⟨h1, h2, h3, ⟨m, h4⟩, h5⟩ := hst
      have hct := h1.cell
      obtain ⟨to, tcap, rfl⟩ := ht.slice
      obtain ⟨tb, off, rfl, hlt, pv, c0, c1, c2, c3, hp⟩ := ht.at k hkt
      obtain ⟨hk', hx'⟩ := List.getElem?_eq_some_iff.1 hx
      rw [hx'] at c0 c1 c2 hp
      have HP := hid hp
      have HPC := hid (fun wx hpx => parts_calls x pv wx hpx (fun h5 => ⟨(mayX_array hmay h5).1, (mayX_array hmay h5).2.1⟩))
      have HSC := hid (scalar_calls x pv w)
      rw [hs] at HSC
      have HQ := hid (And.intro c0 (And.intro c1 (And.intro c2 c3)))
      have hcb := bcell h5
      obtain ⟨pa, pc, rfl, hpl⟩ := ints_slice hp
      have HB := hid h5
      clear ih hp c0 c1 c2 c3 hx hx' hs h2 h1 h3 h4 h5 ht hlow hmay hk45 hcell
      have c0 := (hcb tb (off + k * 4) hlt).trans HQ.out.1
      have c1 := (hcb tb (off + k * 4 + 1) hlt).trans HQ.out.2.1
      have c2 := (hcb tb (off + k * 4 + 2) hlt).trans HQ.out.2.2.1
      have c3 := (hcb tb (off + k * 4 + 3) hlt).trans HQ.out.2.2.2
      clear hcb
      generalize hl : partsOf x = l at *
      clear hl
      generalize t.length = n at *
      go_enter Try.func36, Try.ntmps36
      go_wp2_with fail
      refine HSC.out.mono ?_
      rintro e w1 ⟨rfl, hb1⟩
      have hst1 := HST.out.below hb1
      have HST1 := hid hst1
      have HK1 := hid (Keeps2.below (bl := bl) (u := u) hb1)
      have hcb1 := bcell hb1
      obtain ⟨h1, h2, h3, ⟨m1, h4⟩, h5⟩ := hst1
      have hct1 := h1.cell
      have HPC2 := hid (HPC.out w1 (HP.out.below h5))
      have HAW := hid (fun w2 lv hlv hor => away_of (w2 := w2) (lv := lv) (l := l) hlv HP.out hor h3 h4 hB)
      have hcb := bcell h5
      clear c0 c1 c2 c3 hct hcb1
      have c0 := (hcb tb (off + k * 4) hlt).trans HQ.out.1
      have c1 := (hcb tb (off + k * 4 + 1) hlt).trans HQ.out.2.1
      have c2 := (hcb tb (off + k * 4 + 2) hlt).trans HQ.out.2.2.1
      have c3 := (hcb tb (off + k * 4 + 3) hlt).trans HQ.out.2.2.2
      clear hcb h1 h2 h3 h4 h5 hb1 HSC
      go_wp2_with fail
      refine HPC2.out.mono ?_
      rintro e w2 ⟨lv, rfl, hlv, hb2, hor⟩
      have HST2 := hid (HST1.out.below hb2)
      have HK2 := hid (HK1.out.trans (NewRow.refl _ _) (Keeps2.below hb2))
      have HAW2 := hid (HAW.out w2 lv hlv hor)
      have HLV := hid hlv
      obtain ⟨la, lc, rfl, hll⟩ := ints_slice hlv
      clear hlv hb2 hor HPC2 HPC HAW c0 c1 c2 c3 hct1
      go_wp2
      have HSP := hid (fun i => cells_split t l i)
      have HTK := hid (fun i (h : i < l.length) => cellsAll_take t h)
      go_loopg [22] l.length (fun gk iv wr => ∃ i : Nat, i + gk = l.length ∧ iv = .int .i64 i ∧ ∃ u', St bt bl bw (.slice (some ⟨tb, off, none⟩) n tcap) w0 u' (acc ++ cellsAll t (l.take i)) wr ∧ Keeps2 bl u w wr ∧ NewRow w u u' ∧ IntsAt wr (.slice la l.length lc) l ∧ Away bl u' wr (.slice la l.length lc))
      case atStart => exact ⟨0, by omega, rfl, u, by rw [List.take_zero, cellsAll_nil, List.append_nil]; exact HST2.out, HK2.out, NewRow.refl _ _, HLV.out, HAW2.out⟩
      case round =>
        obtain ⟨i, hi, rfl, u', hst', hk', hn', hlv, haw⟩ := hrel
        have HI := hid hi
        clear hi
        have HS := hid (And.intro hst' (And.intro hk' (And.intro hn' (And.intro hlv haw))))
        by_cases hlt2 : i < l.length
        · obtain ⟨b, o, rfl, hbs, hc⟩ := ints_at hlv i hlt2
          have hbox := hst'.2.1.cell
          have hp := HLOW.out l[i] (List.getElem_mem hlt2)
          have HT2 := hid (HTK.out i hlt2)
          have hsp := HSP.out (i + 1)
          rw [HT2.out, List.length_append] at hsp
          generalize l[i] = p at *
          obtain ⟨q, rfl⟩ : ∃ q : Nat, p = q := ⟨p.toNat, by omega⟩
          rw [Int.toNat_natCast] at hsp HT2
          have HC := hid (HIH.out q (by omega) u' (acc ++ cellsAll t (l.take i)) (by rw [List.length_append]; omega) wr hst')
          clear hst' hk' hn' hlv haw hp hsp
          go_wp2_with fail
          refine HC.out.mono ?_
          rintro e w3 ⟨rfl, u2, hst2, hk2, hn2⟩
          obtain ⟨hs1, hs2, hs3, hs4, hs5⟩ := HS.out
          have hfin : St bt bl bw (.slice (some ⟨tb, off, none⟩) n tcap) w0 u2 (acc ++ cellsAll t (l.take (i + 1))) w3 := by rw [HT2.out, ← List.append_assoc]; exact hst2
          have HF := hid (And.intro hfin (And.intro (hs2.trans hs3 hk2) (And.intro (hs3.trans hs2.1 hn2) (And.intro (hs5.ints hk2 hs4) (hs5.keeps hk2 hn2)))))
          clear hs1 hs2 hs3 hs4 hs5 hst2 hk2 hn2 hfin hc hbox
          go_wp2
          go_roundg (gk - 1)
          case measure => have := HI.out; omega
          case rel => exact ⟨i + 1, by have := HI.out; omega, by go_num, u2, HF.out⟩
        · obtain rfl : i = l.length := by have := HI.out; omega
          clear hst' hk' hn' hlv haw
          go_wp2
          go_end0
          obtain ⟨hs1, hs2, hs3, _, _⟩ := HS.out
          rw [List.take_length] at hs1
          exact ⟨rfl, u', hs1, hs2, hs3⟩

/-- a list of the call's own, and an error -/
def OwnER (l : List Int) (er : Int) (w : World) (e : Ending) (w' : World) : Prop := ∃ v m, e = .returned (.tuple #[v, .int .i64 er]) ∧ w'.ownsRow w.heap.size 3 1 v m (intVals l) ∧ Below w.heap.size w w'
theorem box_new (w : World) (t : TypeId) (v : Value) (n : Nat) (h : w.heap.size = n) : Boxed (w.alloc (.cells #[v] t)) n t v := by subst h; exact Boxed.new _ _ _
set_option maxHeartbeats 1000000 in
theorem cellsOwn_calls (t : List Ty) (v : Value) (k : Int) (w : World) (ht : TysAt w v t) :
    Calls Try.prog 21 #[v, .int .i64 k] w (OwnER (listT t k) (askT t k) w) := by
  have hb0 : Below w.heap.size w (w.alloc (.cells #[v] 25)) := (Below.refl _ _).alloc (Nat.le_refl _) _
  have HC := hid (find_calls t v k _ (ht.below hb0))
  have HI : Hid (listT t k = if askT t k = 0 then cellsOf t k.toNat else []) := rfl
  have HT := hid ht
  have hbx : Boxed (w.alloc (.cells #[v] 25)) w.heap.size 25 v := Boxed.new _ _ _
  have HBX := hid hbx
  obtain ⟨to, tcap, rfl⟩ := ht.slice
  clear ht hbx
  by_cases h0 : askT t k = 0
  · have HF := hid (find_zero h0)
    obtain ⟨_, hlow, m, x, rfl, hx, _, hcl⟩ := askT_some h0
    have hm : m < t.length := (List.getElem?_eq_some_iff.1 hx).1
    rw [h0] at HC
    rw [HI.out, if_pos h0, h0, Int.toNat_natCast]
    have HW := hid (fun bt bl bw (hB : w.heap.size ≤ bl) hbt hbw u wx (hs : St bt bl bw (.slice to t.length tcap) w u [] wx) => walk_any (m + 1) t _ w HT.out hlow bt bl bw hB hbt hbw m (by omega) hm u [] (by simp; omega) wx hs)
    clear h0 hx hlow HI HF
    generalize findT t m = y at *
    generalize t.length = n at *
    go_enter Try.func21, Try.ntmps21
    go_wp2_with fail
    refine HC.out.mono ?_
    rintro e w1 ⟨pv, rfl, hp, hb1⟩
    obtain ⟨pa, pc, rfl, hpl⟩ := ints_slice hp
    have hbe := hb0.trans (hb1.mono hb0.size)
    have hsz : w.heap.size + 1 ≤ w1.heap.size := by have := hb1.size; simpa using this
    have hb2 : Below w1.heap.size w1 (((w1.alloc (.cells #[.int .u8 y.kind, .int .i64 y.elem, .int .i64 y.many, .slice pa y.parts.length pc] 43)).alloc (.cells #[.slice none 0 0] 27)).alloc (.cells #[walkV w.heap.size (w1.heap.size + 1) (w1.heap.size + 1 + 1)] 57)) :=
      (((Below.refl _ _).alloc (Nat.le_refl _) _).alloc (by simp) _).alloc (by simp; omega) _
    have hst : St w.heap.size (w1.heap.size + 1) (w1.heap.size + 1 + 1) (.slice to n tcap) w (.slice none 0 0) [] (((w1.alloc (.cells #[.int .u8 y.kind, .int .i64 y.elem, .int .i64 y.many, .slice pa y.parts.length pc] 43)).alloc (.cells #[.slice none 0 0] 27)).alloc (.cells #[walkV w.heap.size (w1.heap.size + 1) (w1.heap.size + 1 + 1)] 57)) := by
      refine ⟨?_, ?_, ?_, ⟨0, World.ownsRow_nil _ _ _ _⟩, hbe.trans (hb2.mono hbe.size)⟩
      · have h1 : Boxed w1 w.heap.size 25 (.slice to n tcap) := (hb1.block _ HBX.out.lt).trans HBX.out
        exact ((h1.alloc _).alloc _).alloc _
      · exact box_new _ _ _ _ (by simp)
      · exact (box_new _ _ _ _ (by simp)).alloc _
    have HC2 := hid (HW.out _ _ _ (by omega) (by omega) (by omega) _ _ hst)
    clear hp hb1 hb2 hst HW HC hbe
    go_wp2_with fail
    refine HC2.out.mono ?_
    rintro e w2 ⟨rfl, u2, hst2, _, _⟩
    obtain ⟨_, _, h3, ⟨m3, h4⟩, h5⟩ := hst2
    rw [List.nil_append] at h4
    have hc3 := h3.cell
    have HL := hid h4
    clear h3 h4
    go_wp2
    go_ret2
    exact ⟨u2, m3, rfl, HL.out, h5⟩
  · rw [HI.out, if_neg h0]
    have hne : (askT t k != 0) = true := by simpa using h0
    generalize askT t k = er at *
    generalize findT t k = x at *
    clear h0 HI
    go_enter Try.func21, Try.ntmps21
    go_wp2_with fail
    refine HC.out.mono ?_
    rintro e w1 ⟨pv, rfl, hp, hb1⟩
    obtain ⟨pa, pc, rfl, hpl⟩ := ints_slice hp
    have hbe := (hb0.trans (hb1.mono hb0.size)).alloc (by have := hb0.size; have := hb1.size; omega) (.cells #[.int .u8 x.kind, .int .i64 x.elem, .int .i64 x.many, .slice pa x.parts.length pc] 43)
    clear hp hb1
    go_wp2
    go_ret2
    exact ⟨_, 0, rfl, World.ownsRow_nil _ _ _ _, hbe⟩
theorem listT_le (t : List Ty) (k : Int) : (listT t k).length ≤ 32 := by
  unfold listT
  by_cases h : askT t k = 0
  · rw [if_pos h]
    obtain ⟨_, _, n, x, rfl, _, _, hc⟩ := askT_some h
    rwa [Int.toNat_natCast]
  · rw [if_neg h]; simp
theorem cells_calls (t : List Ty) (v : Value) (k : Int) (w : World) (ht : TysAt w v t) :
    Calls Try.prog 21 #[v, .int .i64 k] w (IntsER (listT t k) (askT t k) w) :=
  (cellsOwn_calls t v k w ht).mono fun e w' ⟨u, m, he, ho, hb⟩ => ⟨u, he, intsAt_of_owns ho (by have := listT_le t k; omega), hb⟩
end Go.Proofs.Ytindpgejnaofkaa.TyK
