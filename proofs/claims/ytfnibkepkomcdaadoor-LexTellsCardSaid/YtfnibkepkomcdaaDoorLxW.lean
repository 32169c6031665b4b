/- Walk over fescueref05.wordsOf: a line's words. -/
import Derived.Test.YtfnibkepkomcdaaDoorLxC
import Derived.Laws.IdiomStrings
namespace Go.Proofs.YtfnibkepkomcdaaDoor.LxW
open Go.RowKit Go.Lib LxM LxP LxK LxJ LxC

/-- bytes in a block, which may be written -/
def BytesAt (w : World) (g : Nat) (l : List UInt8) : Prop := ∀ j (h : j < l.length), w.cell? ⟨g, j, none⟩ = some (.int .u8 (l[j].toNat : Int)) ∧ w.frozen? ⟨g, j, none⟩ = false
theorem BytesAt.set {w : World} {g : Nat} {l : List UInt8} (h : BytesAt w g l) (i : Nat) (hi : i < l.length) (c : UInt8) (n : Int) (hn : n = (c.toNat : Int)) : BytesAt (w.setCell ⟨g, i, none⟩ (.int .u8 n)) g (l.set i c) := by
  subst hn
  intro j hj
  rw [List.length_set] at hj
  rw [World.frozen?_setCell]
  refine ⟨?_, (h j hj).2⟩
  by_cases e : i = j
  · subst e
    rw [World.cell?_setCell_same w _ _ (h i hi).1]
    simp
  · rw [World.cell?_setCell_other w _ _ _ (by simp), (h j hj).1]
    simp [e]
theorem BytesAt.back {w : World} {g : Nat} {l : List UInt8} (h : BytesAt w g l) (cap : Nat) :
    (convert 26 9 (.slice (some ⟨g, 0, none⟩) l.length cap)).run Tryd.prog w = .ok (.string ⟨l.toArray⟩) w :=
  run_convert_bytes_back (P := Tryd.prog) w 26 9 5 ⟨g, 0, none⟩ cap l Tryd.underlying26 Tryd.underlying5 Tryd.underlying9 (fun j hj => by
    rw [show (⟨g, 0, none⟩ : Addr).add j = ⟨g, j, none⟩ by simp [Addr.add]; omega]
    exact (h j hj).1)

/-- the first so many turned -/
def turn (l : List UInt8) (i : Nat) : List UInt8 := (l.take i).map spB ++ l.drop i
theorem turn_zero (l : List UInt8) : turn l 0 = l := rfl
theorem turn_all (l : List UInt8) : turn l l.length = l.map spB := by simp [turn]
theorem turn_length (l : List UInt8) (i : Nat) : (turn l i).length = l.length := by simp [turn]; omega
theorem turn_at {l : List UInt8} {i : Nat} (h : i < l.length) : (turn l i)[i]'(by rw [turn_length]; exact h) = l[i] := by
  unfold turn
  rw [List.getElem_append_right (by simp; omega)]
  simp [List.length_take, Nat.min_eq_left (Nat.le_of_lt h)]
theorem turn_next {l : List UInt8} {i : Nat} (h : i < l.length) : turn l (i + 1) = (turn l i).set i (spB l[i]) := by
  unfold turn
  rw [List.take_succ_eq_append_getElem h, List.set_append_right _ _ (by simp; omega)]
  simp only [List.length_map, List.length_take, Nat.min_eq_left (Nat.le_of_lt h), Nat.sub_self, List.map_append, List.map_cons, List.map_nil]
  conv => rhs; rw [List.drop_eq_getElem_cons h, List.set_cons_zero]
  simp
theorem turn_same {l : List UInt8} {i : Nat} (h : i < l.length) (hs : spB l[i] = l[i]) : turn l (i + 1) = turn l i := by
  rw [turn_next h, hs]
  have h2 : i < (turn l i).length := by rw [turn_length]; exact h
  have e := turn_at h
  have e2 : (turn l i).set i ((turn l i)[i]) = turn l i := List.set_getElem_self h2
  rw [e] at e2
  exact e2

/-- the words so far -/
theorem keep_take {l : List Word} {k : Nat} (h : k < l.length) : (l.take (k + 1)).filter some1 = if l[k] = [] then (l.take k).filter some1 else (l.take k).filter some1 ++ [l[k]] := by
  rw [List.take_succ_eq_append_getElem h, filter_push]
  rfl
theorem mk_ne {y : Word} (h : y ≠ []) : (mk y).toList.isEmpty = false := by
  rw [Lib.toList_data]
  show (un (mk y)).isEmpty = false
  rw [un_mk]
  cases y with
  | nil => exact absurd rfl h
  | cons a t => rfl
theorem own_strs {w : World} {B : Nat} {u : Value} {n : Nat} {l : List Word} (h : w.ownsRow B 9 1 u n (strs (mkW l))) (hl : l.length ≤ 1000000) : StrsAt w u (mkW l) := list_of_owns h (by simp; omega)
theorem cut_small (b : Nat) : ∀ l : List UInt8, (∀ x ∈ (cutP b l).1, x.length ≤ l.length) ∧ (cutP b l).2.length ≤ l.length ∧ (cutP b l).1.length ≤ l.length := by
  refine snoc_ind ⟨by simp [cutP], by simp [cutP], by simp [cutP]⟩ fun l c ih => ?_
  obtain ⟨h1, h2, h3⟩ := ih
  rw [cutP_snoc, List.length_append]
  unfold cstep
  split
  · refine ⟨fun x hx => ?_, by simp, by simp; omega⟩
    simp only [List.mem_append, List.mem_singleton] at hx
    rcases hx with hx | rfl
    · have := h1 x hx; omega
    · omega
  · exact ⟨fun x hx => by have := h1 x hx; omega, by simp; omega, by simp only; omega⟩
theorem cutS_small {b : Nat} {l : List UInt8} : (∀ x ∈ cutS b l, x.length ≤ l.length) ∧ (cutS b l).length ≤ l.length + 1 := by
  obtain ⟨h1, h2, h3⟩ := cut_small b l
  unfold cutS
  refine ⟨fun x hx => ?_, by simp; omega⟩
  rcases List.mem_append.1 hx with hx | hx
  · exact h1 x hx
  · rw [List.mem_singleton.1 hx]; exact h2
/-- bytes out of a string -/
theorem to_bytes (w : World) (x : Word) : ∃ w2 cap, (convert 9 26 (.string (mk x))).run Tryd.prog w = .ok (.slice (some ⟨w.heap.size, 0, none⟩) x.length cap) w2 ∧ BytesAt w2 w.heap.size x ∧ Below w.heap.size w w2 := by
  have h := run_bytes_of_string (P := Tryd.prog) w 9 26 5 (mk x) Tryd.underlying9 Tryd.underlying26 Tryd.underlying5
  rw [mk_size] at h
  refine ⟨_, _, h, fun j hj => ?_, ?_⟩
  · generalize grownCap w x.length 0 5 = cap
    have hs : j < (mk x).data.size := by simpa [mk] using hj
    have e := bytesRow_at (mk x) cap j hs
    have hlen : x.length ≤ (bytesRow (mk x) cap).size := by
      have := mk_size x
      unfold bytesRow
      simp [mk]
    refine ⟨?_, ?_⟩
    · have := World.cell?_alloc_mark w.drew (bytesRow (mk x) cap) 5 ((bytesRow (mk x) cap).size, (bytesRow (mk x) cap).size + 1) j
      rw [e] at this
      refine this.trans ?_
      simp [mk]
    · have := World.frozen?_alloc_mark w.drew (bytesRow (mk x) cap) 5 (bytesRow (mk x) cap).size ((bytesRow (mk x) cap).size + 1) j
      refine this.trans ?_
      simp
      omega
  · exact (Below.refl _ _).drew.alloc (Nat.le_refl _) _

set_option maxHeartbeats 2000000 in
theorem wordsOf_calls (s : ByteArray) (hs : s.size ≤ 16384) (w : World) : Calls Tryd.prog 26 #[.string s] w (StrsR (wordsB (un s)) w) := by
  have HC := hid (cut_calls s hs 35 w)
  obtain ⟨x, t, hx⟩ : ∃ x t, cutS 35 (un s) = x :: t := by
    cases h : cutS 35 (un s) with
    | nil => have := cutS_ne 35 (un s); rw [h] at this; simp at this
    | cons a t => exact ⟨a, t, rfl⟩
  have hxl : x.length ≤ s.size := by
    have := (cutS_small (b := 35) (l := un s)).1 x (by rw [hx]; simp)
    rwa [un_len] at this
  have htl : t.length ≤ s.size := by
    have := (cutS_small (b := 35) (l := un s)).2
    rw [un_len, hx] at this
    simpa using this
  have href : wordsB (un s) = (cutS 32 (x.map spB)).filter some1 := by rw [← refW_eq]; unfold refW; rw [hx]; rfl
  rw [href]
  rw [hx] at HC
  clear hx href
  generalize hD : cutS 32 (x.map spB) = D at *
  have HC2 := hid (fun wx => cut_calls (mk (x.map spB)) (by rw [mk_size]; simp; omega) 32 wx)
  rw [un_mk, hD] at HC2
  have hDs := (cutS_small (b := 32) (l := x.map spB))
  rw [hD, List.length_map] at hDs
  have hDl := hDs.2
  clear hD hDs
  go_enter Tryd.func26, Tryd.ntmps26
  go_wp2_with fail
  refine HC.out.mono ?_
  rintro e w1 ⟨u, rfl, hown, hb1⟩
  have HSA := hid (own_strs hown (by simp; omega))
  obtain ⟨ua, uc, rfl, hul⟩ := HSA.out.slice
  obtain ⟨g, o, rfl, hg, hc⟩ := HSA.out.at 0 (by simp)
  simp only [List.map_cons, List.getElem_cons_zero, Nat.add_zero] at hc
  obtain ⟨w2, cap, hcv, hB, hb2⟩ := to_bytes w1 x
  have HB2 := hid hB
  have hbe2 := hb1.trans (hb2.mono hb1.size)
  have HX : Hid (BytesAt w2 w1.heap.size (turn x 0)) := by rw [turn_zero]; exact HB2
  have hgs : w.heap.size ≤ w1.heap.size := hb1.size
  simp only [List.length_map, List.length_cons] at hul
  clear hown hB
  generalize hn : x.length = n at *
  have HN := hid hn
  clear hn
  clear HC
  go_wp2
  clear hcv hc
  go_loopg [4] n (fun gk iv wr => ∃ i : Nat, i + gk = n ∧ iv = .int .i64 i ∧ Hid (BytesAt wr w1.heap.size (turn x i)) ∧ Below w.heap.size w wr)
  case atStart => exact ⟨0, by omega, rfl, HX, hbe2⟩
  case round =>
    obtain ⟨i, hi, rfl, HBY, hbe⟩ := hrel
    have HI := hid hi
    by_cases hlt : i < n
    · have hix : i < x.length := by rw [HN.out]; exact hlt
      obtain ⟨hcell, hfz⟩ := HBY.out i (by rw [turn_length]; exact hix)
      rw [turn_at hix] at hcell
      have h255 := u8_le x[i]
      have HSET := hid (fun c => turn_next hix ▸ HBY.out.set i (by rw [turn_length]; exact hix) (spB x[i]) c)
      have HSAME := hid (fun h => (turn_same hix h) ▸ HBY.out)
      have HBS := hid (hbe.setCell (p := ⟨w1.heap.size, i, none⟩) hgs (.int .u8 32))
      clear hi
      by_cases h9 : x[i].toNat = 9
      · have HS := hid (HSET.out 32 (by simp [spB, h9]))
        have e9 : ((x[i].toNat : Int) == 9) = true := by simp; omega
        clear HSET HSAME h9
        go_wp2
        go_roundg (gk - 1)
        case measure => have := HI.out; omega
        case rel => exact ⟨i + 1, by have := HI.out; omega, by go_num, HS, HBS.out⟩
      by_cases h13 : x[i].toNat = 13
      · have HS := hid (HSET.out 32 (by simp [spB, h13]))
        have e9 : ((x[i].toNat : Int) == 9) = false := by simp; omega
        have e13 : ((x[i].toNat : Int) == 13) = true := by simp; omega
        clear HSET HSAME h13 h9
        go_wp2
        go_roundg (gk - 1)
        case measure => have := HI.out; omega
        case rel => exact ⟨i + 1, by have := HI.out; omega, by go_num, HS, HBS.out⟩
      · have HS := hid (HSAME.out (by simp [spB, h9, h13]))
        have e9 : ((x[i].toNat : Int) == 9) = false := by simp; omega
        have e13 : ((x[i].toNat : Int) == 13) = false := by simp; omega
        clear HSET HSAME h13 h9
        go_wp2
        go_roundg (gk - 1)
        case measure => have := HI.out; omega
        case rel => exact ⟨i + 1, by have := HI.out; omega, by go_num, HS, hbe⟩
    · obtain rfl : i = n := by omega
      have hbk := HBY.out.back cap
      rw [turn_length, HN.out] at hbk
      have hmk : (⟨(turn x i).toArray⟩ : ByteArray) = mk (x.map spB) := by rw [← turn_all, HN.out]; rfl
      rw [hmk] at hbk
      have HCW := hid (HC2.out wr)
      clear hi hlt hmk HBY HI HX HB2 HC2
      go_wp2_with fail
      refine HCW.out.mono ?_
      rintro e w3 ⟨v, rfl, hown, hb3⟩
      have HSD := hid (own_strs hown (by omega))
      have hbe3 := hbe.trans (hb3.mono hbe.size)
      obtain ⟨va, vc, rfl, hvl⟩ := HSD.out.slice
      simp only [List.length_map] at hvl ⊢
      clear hown hb3 HCW hbk
      have HB3 := hid hbe3
      go_wp2
      clear hbe hb1 hb2 hbe2
      go_loopg [5, 7] D.length (fun gk u iv wx => ∃ k : Nat, k + gk = D.length ∧ iv = .int .i64 k ∧ Hid (wx.ownsRow w3.heap.size 9 1 u ((D.take k).filter some1).length (strs (mkW ((D.take k).filter some1)))) ∧ Below w3.heap.size w3 wx)
      case atStart => exact ⟨0, by omega, rfl, World.ownsRow_nil _ _ _ _, Below.refl _ _⟩
      case round =>
        obtain ⟨k, hk, rfl, HO, hbx⟩ := hrel
        have HK := hid hk
        by_cases hlt : k < D.length
        · obtain ⟨b, o, rfl, _, hc⟩ := (HSD.out.below hbx).at k (by simpa using hlt)
          simp only [List.getElem_map] at hc
          have HT := hid (keep_take hlt)
          have hfl : ((D.take k).filter some1).length ≤ 20000 := by
            have h1 := List.length_filter_le some1 (D.take k)
            rw [List.length_take] at h1
            omega
          generalize (D.take k).filter some1 = F at *
          generalize D[k] = y at *
          clear hk
          by_cases hy : y = []
          · have HT2 : Hid ((D.take (k + 1)).filter some1 = F) := by show _ = _; rw [HT.out, if_pos hy]
            have hmy : mk y = ⟨#[]⟩ := by rw [hy]; rfl
            rw [hmy] at hc
            clear hy hmy HT
            go_wp2
            go_roundg (gk - 1)
            case measure => have := HK.out; omega
            case rel => exact ⟨k + 1, by have := HK.out; omega, by go_num, by rw [HT2.out]; exact HO, hbx⟩
          · have HT2 : Hid ((D.take (k + 1)).filter some1 = F ++ [y]) := by show _ = _; rw [HT.out, if_neg hy]
            have HSN : Hid (strs (mkW (F ++ [y])) = strs (mkW F) ++ [.string (mk y)]) := by show _ = _; simp
            have hze := mk_ne hy
            generalize mk y = z at *
            generalize strs (mkW F) = xs at *
            generalize hm : F.length = m at *
            have HM := hid hm
            clear hm
            have hO1 : Hid ((wr.alloc (.cells #[.string z] 9)).ownsRow w3.heap.size 9 1 u5 m xs) := HO.out.alloc _
            have HCE : Hid ((wr.alloc (.cells #[.string z] 9)).cell? ⟨wr.heap.size, 0, none⟩ = some (.string z)) := by show _ = _; simp
            have hltw : wr.heap.size < (wr.alloc (.cells #[.string z] 9)).heap.size := by simp
            have HB1 := hid (hbx.alloc hbx.size (.cells #[.string z] 9))
            have hsz := HB1.out.size
            clear HT hy
            go_wp2_with (at_builtin; refine wpList_append_one rfl (.tmp 48) (.tmp 53) elemS rfl w3.heap.size u5 rfl m xs hO1.out (by omega) wr.heap.size (.string z) rfl HCE.out hltw rfl hsz ?_)
            intro v2 w2 hown2 hgr
            have HO2 : Hid (w2.ownsRow w3.heap.size 9 1 v2 (F ++ [y]).length (strs (mkW (F ++ [y])))) := by
              show World.ownsRow _ _ _ _ _ _ _
              rw [HSN.out, List.length_append, HM.out]
              exact hown2
            have HB5 := hid (own_grown HB1.out hO1.out hgr hsz)
            clear hown2 hgr hO1 HCE HB1
            go_wp2
            go_roundg (gk - 1)
            case measure => have := HK.out; omega
            case rel => exact ⟨k + 1, by have := HK.out; omega, by go_num, by rw [HT2.out]; exact HO2, HB5.out⟩
        · obtain rfl : k = D.length := by omega
          rw [List.take_length] at HO
          have HOB := hid (owns_base HO.out HB3.out.size)
          have HBF := hid (HB3.out.trans (hbx.mono HB3.out.size))
          clear hk
          go_wp2
          go_ret
          exact ⟨_, rfl, HOB.out, HBF.out⟩
end Go.Proofs.YtfnibkepkomcdaaDoor.LxW
