/- Walk over fescueref05.Lines. -/
import Derived.Test.YtfnibkepkomcdaaDoorLxW
namespace Go.Proofs.YtfnibkepkomcdaaDoor.LxQ
open Go.RowKit Go.Lib LxM LxP LxK LxJ LxC LxW

/-- the lines of the first so many -/
def QI (w : World) (D : List Word) (k : Nat) (u : Value) (r : List Rw) (wr : World) : Prop :=
  r.map Prod.fst = mkL (((D.take k).map wordsB).filter full) ∧ OwnL w.heap.size u r wr ∧ Below w.heap.size w wr ∧ ∀ x ∈ (D.take k).map wordsB, x.length ≤ 64
theorem QI.len {w wr : World} {D : List Word} {k : Nat} {u : Value} {r : List Rw} (h : QI w D k u r wr) : r.length ≤ D.length := by
  have h1 : r.length = (((D.take k).map wordsB).filter full).length := by
    have := congrArg List.length h.1
    simpa [mkL] using this
  have h2 := List.length_filter_le full ((D.take k).map wordsB)
  rw [List.length_map, List.length_take] at h2
  omega
theorem q_take {D : List Word} {k : Nat} (h : k < D.length) : (D.take (k + 1)).map wordsB = (D.take k).map wordsB ++ [wordsB D[k]] := by
  rw [List.take_succ_eq_append_getElem h, List.map_append]; rfl
theorem QI.short {w wr : World} {D : List Word} {k : Nat} {u : Value} {r : List Rw} (h : QI w D k u r wr) (hk : k < D.length) (hl : (wordsB D[k]).length ≤ 64) : ∀ x ∈ (D.take (k + 1)).map wordsB, x.length ≤ 64 := by
  rw [q_take hk]
  intro x hx
  rcases List.mem_append.1 hx with hx | hx
  · exact h.2.2.2 x hx
  · rw [List.mem_singleton.1 hx]; exact hl
theorem QI.empty {w wr w1 : World} {D : List Word} {k : Nat} {u : Value} {r : List Rw} (h : QI w D k u r wr) (hk : k < D.length) (hw : wordsB D[k] = []) (hb : Below wr.heap.size wr w1) : QI w D (k + 1) u r w1 := by
  refine ⟨?_, OwnL.below h.2.1 hb, h.2.2.1.trans (hb.mono h.2.2.1.size), h.short hk (by rw [hw]; simp)⟩
  rw [h.1, q_take hk, hw, List.filter_append]
  simp [full]
theorem QI.full {w wr w1 w2 : World} {D : List Word} {k : Nat} {u u2 v : Value} {r : List Rw} {W : List Word} (h : QI w D k u r wr) (hk : k < D.length) (hw : wordsB D[k] = W) (hne : W ≠ []) (hl : W.length ≤ 64) (hb : Below wr.heap.size wr w1)
    (hv : w1.ownsRow wr.heap.size 9 1 v W.length (strs (mkW W))) (hg : w1.grownBy w2 u.ownBlock) (ho : w2.ownsRow w.heap.size 29 1 u2 (r.length + 1) (r.map Prod.snd ++ [v])) : QI w D (k + 1) u2 (r ++ [(mkW W, v)]) w2 := by
  have hO := OwnL.below h.2.1 hb
  have hbw := h.2.2.1.trans (hb.mono h.2.2.1.size)
  refine ⟨?_, OwnL.snoc hO (owns_base (by simpa using hv) h.2.2.1.size) hg ho, own_grown hbw hO.1 hg hbw.size, h.short hk (by rw [hw]; exact hl)⟩
  rw [List.map_append, h.1, q_take hk, hw, List.filter_append]
  have : List.filter LxM.full [W] = [W] := by
    cases W with
    | nil => exact absurd rfl hne
    | cons a t => rfl
  rw [this]
  simp
theorem QI.long {w wr : World} {s : ByteArray} {k : Nat} {u : Value} {r : List Rw} (_ : QI w (cutS 10 (un s)) k u r wr) (hk : k < (cutS 10 (un s)).length) (hl : 64 < (wordsB (cutS 10 (un s))[k]).length) : lnE (un s) = 4 := by
  refine lnE_long (x := wordsB (cutS 10 (un s))[k]) ?_ hl
  rw [allW_cut]
  exact List.mem_map_of_mem (List.getElem_mem hk)
theorem QI.end {w w1 wr : World} {s : ByteArray} {u : Value} {r : List Rw} (h : QI w1 (cutS 10 (un s)) (cutS 10 (un s)).length u r wr) (hb : Below w.heap.size w w1) (hs : s.size ≤ 16384) : LnR s w (.returned (.tuple #[u, .int .i64 0])) wr := by
  obtain ⟨h1, h2, h3, h4⟩ := h
  replace h2 := h2.base hb.size
  replace h3 := hb.trans (h3.mono hb.size)
  rw [List.take_length, ← allW_cut] at h1 h4
  have hE : lnE (un s) = 0 := lnE_ok (by rw [un_len]; exact hs) h4
  exact ⟨u, r, by rw [hE], by rw [h1, lnT_ok hE], h2, h3⟩

set_option maxHeartbeats 2000000 in
theorem linesR_calls (s : ByteArray) (w : World) : Calls Tryd.prog 14 #[.string s] w (LnR s w) := by
  by_cases hbig : 16384 < s.size
  · have HE := hid (lnE_big (s := un s) (by rw [un_len]; exact hbig))
    go_enter Tryd.func14, Tryd.ntmps14
    go_wp2
    go_ret2
    exact LnR.many HE.out (Below.refl _ _)
  · have hs : s.size ≤ 16384 := by omega
    have HC := hid (cut_calls s hs 10 w)
    have HEND := hid (fun (w1 : World) (hb : Below w.heap.size w w1) (u : Value) (r : List Rw) (wr : World) (h : QI w1 (cutS 10 (un s)) (cutS 10 (un s)).length u r wr) => h.end hb hs)
    have HLONG := hid (fun (w1 : World) (u : Value) (r : List Rw) (wr : World) (k : Nat) (h : QI w1 (cutS 10 (un s)) k u r wr) hk hl => h.long hk hl)
    obtain ⟨hds, hdl⟩ := cutS_small (b := 10) (l := un s)
    rw [un_len] at hds hdl
    generalize cutS 10 (un s) = D at *
    have HDS := hid hds
    clear hds
    go_enter Tryd.func14, Tryd.ntmps14
    go_wp2_with fail
    refine HC.out.mono ?_
    rintro e w1 ⟨v, rfl, hown, hb1⟩
    have HSD := hid (own_strs hown (by omega))
    obtain ⟨va, vc, rfl, hvl⟩ := HSD.out.slice
    simp only [List.length_map] at hvl ⊢
    have HQ : Hid (QI w1 D 0 (.slice none 0 0) [] w1) := ⟨rfl, OwnL.nil _ _, Below.refl _ _, by simp⟩
    have HB1 := hid hb1
    clear hown HC
    go_wp2
    go_loopg [4, 6, 7] D.length (fun gk u iv _wv wr => ∃ (k : Nat) (r : List Rw), k + gk = D.length ∧ iv = .int .i64 k ∧ Hid (QI w1 D k u r wr))
    case atStart => exact ⟨0, [], by omega, rfl, HQ⟩
    case round =>
      obtain ⟨k, r, hk, rfl, HI⟩ := hrel
      have hbx := HI.out.2.2.1
      have HK := hid hk
      by_cases hlt : k < D.length
      · obtain ⟨b, o, rfl, _, hc⟩ := (HSD.out.below hbx).at k (by simpa using hlt)
        simp only [List.getElem_map] at hc
        have hxl := HDS.out _ (List.getElem_mem hlt)
        have HW := hid (wordsOf_calls (mk D[k]) (by rw [mk_size]; omega) wr)
        rw [un_mk] at HW
        have hrl := HI.out.len
        have HL := hid (HLONG.out _ _ r wr k HI.out hlt)
        have HEM := hid (fun h w1 => HI.out.empty (w1 := w1) hlt h)
        have HFU := hid (fun (w1 w2 : World) (u2 v : Value) (W : List Word) h => HI.out.full (w1 := w1) (w2 := w2) (u2 := u2) (v := v) (W := W) hlt h)
        have HOL := hid HI.out.2.1
        generalize D[k] = y at *
        generalize hW : wordsB y = W at *
        have HWW := hid hW
        clear hk hW hxl
        go_wp2_with fail
        refine HW.out.mono ?_
        rintro e w2 ⟨v, rfl, hv, hb2⟩
        obtain ⟨va2, vc2, rfl⟩ := own_slice hv
        have HV := hid hv
        have HB2 := hid hb2
        have hbx2 := hbx.trans (hb2.mono hbx.size)
        have hbw2 := HB1.out.trans (hbx2.mono HB1.out.size)
        clear hv hb2 HW hbx hc
        by_cases h64 : 64 < W.length
        · have HE := hid (HL.out h64)
          clear HL HEM HFU HSD HQ
          generalize W.length = n at *
          go_wp2
          go_ret2
          exact LnR.many HE.out hbw2
        by_cases h0 : W = []
        · have HN := hid (HEM.out h0 w2 HB2.out)
          have hz : W.length = 0 := by rw [h0]; rfl
          clear HL HEM HFU h0
          generalize W.length = n at *
          subst hz
          go_wp2
          go_roundg (gk - 1)
          case measure => have := HK.out; omega
          case rel => exact ⟨k + 1, r, by have := HK.out; omega, by go_num, HN⟩
        · have HN := hid (fun w3 u3 => HFU.out (w2.alloc (.cells #[.slice va2 W.length vc2] 29)) w3 u3 (.slice va2 W.length vc2) W rfl h0 (by omega) (HB2.out.alloc HB2.out.size _) (HV.out.alloc _))
          have hpos : 0 < W.length := by
            cases W with
            | nil => exact absurd rfl h0
            | cons a t => simp
          have hO1 : Hid ((w2.alloc (.cells #[.slice va2 W.length vc2] 29)).ownsRow w1.heap.size 29 1 u4 r.length (r.map Prod.snd)) := (ownsRow_below HOL.out.1 HB2.out).alloc _
          clear HL HEM HFU h0 HV HOL
          generalize W.length = n at *
          have HCE : Hid ((w2.alloc (.cells #[.slice va2 n vc2] 29)).cell? ⟨w2.heap.size, 0, none⟩ = some (.slice va2 n vc2)) := by show _ = _; simp
          have hltw : w2.heap.size < (w2.alloc (.cells #[.slice va2 n vc2] 29)).heap.size := by simp
          have hsz := (hbx2.alloc hbx2.size (.cells #[.slice va2 n vc2] 29)).size
          go_wp2_with (at_builtin; refine wpList_append_one rfl (.tmp 30) (.tmp 32) elemL rfl w1.heap.size u4 rfl r.length (r.map Prod.snd) hO1.out (by omega) w2.heap.size (.slice va2 n vc2) rfl HCE.out hltw rfl hsz ?_)
          intro u3 w3 hown3 hgr
          have HQ3 := hid (HN.out w3 u3 hgr hown3)
          clear hown3 hgr hO1 HCE HN
          go_wp2
          go_roundg (gk - 1)
          case measure => have := HK.out; omega
          case rel => exact ⟨k + 1, _, by have := HK.out; omega, by go_num, HQ3⟩
      · obtain rfl : k = D.length := by omega
        have HE := hid (HEND.out _ HB1.out _ _ _ HI.out)
        clear hk HEND HLONG HDS HI HQ
        go_wp2
        go_ret2
        exact HE.out
end Go.Proofs.YtfnibkepkomcdaaDoor.LxQ
