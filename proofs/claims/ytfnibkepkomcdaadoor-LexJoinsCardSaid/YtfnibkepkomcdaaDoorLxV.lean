/- Walks over fescueref05.line and Join. -/
import Derived.Test.YtfnibkepkomcdaaDoorLxU
import Derived.Laws.IdiomStrings
namespace Go.Proofs.YtfnibkepkomcdaaDoor.LxV
open Go.RowKit Go.Lib LxM LxP LxK LxJ LxS LxY LxO LxB LxN LxT LxU

theorem elemB : Elem Tryd.prog 26 5 (.int .u8 0) 1 := ⟨Tryd.underlying26, by kernel_rfl, rfl, by decide⟩
/-- bytes in a row that the call owns -/
def BytesR (l : List UInt8) (w : World) (e : Ending) (w' : World) : Prop :=
  ∃ u, e = .returned u ∧ w'.ownsRow w.heap.size 5 1 u l.length (Lib.byteCells l) ∧ Below w.heap.size w w'
theorem bytes_one (l : List UInt8) : ∀ u ∈ Lib.byteCells l, u.oneCell' = true := by
  intro u hu
  obtain ⟨x, _, rfl⟩ := List.mem_map.1 hu
  rfl
theorem join_snoc {a : List Word} {w : Word} : Lib.join (a ++ [w]) [32] = if a = [] then w else Lib.join a [32] ++ [32] ++ w := by
  cases a with
  | nil => simp [Lib.join_one]
  | cons y r =>
    rw [if_neg (by simp), List.cons_append, Lib.join_cons, Lib.join_cons]
    simp [Lib.joinTail]
/-- a line's text, so far -/
def soFar (x : List ByteArray) (k : Nat) : List UInt8 := Lib.join ((unW x).take k) [32]
theorem soFar_zero (x : List ByteArray) : soFar x 0 = [] := rfl
theorem soFar_next {x : List ByteArray} {k : Nat} (h : k < x.length) : soFar x (k + 1) = if k = 0 then un x[k] else soFar x k ++ [32] ++ un x[k] := by
  unfold soFar
  have h2 : k < (unW x).length := by simpa using h
  rw [List.take_succ_eq_append_getElem h2, join_snoc]
  simp only [List.getElem_map]
  by_cases e : k = 0
  · rw [if_pos e, if_pos (by rw [e]; rfl)]
  · rw [if_neg e, if_neg]
    intro h0
    have := congrArg List.length h0
    rw [List.length_take, List.length_map] at this
    simp only [List.length_nil] at this
    omega
theorem soFar_all (x : List ByteArray) : soFar x x.length ++ [10] = lineT (unW x) := by
  unfold soFar lineT
  rw [List.take_of_length_le (by simp)]
theorem soFar_len (x : List ByteArray) (k : Nat) : (soFar x k).length ≤ szL (unW x) := by
  by_cases h : (unW x).take k = []
  · unfold soFar; rw [h]; simp [Lib.join_nil]
  · have h1 := lineT_length h
    have h2 := szL_take_le (unW x) k
    unfold lineT at h1
    rw [List.length_append] at h1
    unfold soFar
    omega

set_option maxHeartbeats 2000000 in
theorem line_calls (va : Value) (x : List ByteArray) (w : World) (hl : StrsAt w va x) (hs : ∀ y ∈ x, y.size ≤ 1000000) (hz : szL (unW x) ≤ 1000000) (hn : x.length ≤ 1000000) :
    Calls Tryd.prog 30 #[va] w (BytesR (lineT (unW x)) w) := by
  obtain ⟨i0, hi0, hz0, hz1, hz2⟩ := info_parts elemB.info
  have HA := hid hl
  obtain ⟨ao, ac, rfl, hla⟩ := hl.slice
  have HSI := hid hs
  have HLE := hid (fun k => Nat.le_trans (soFar_len x k) hz)
  have HAL := hid (soFar_all x)
  clear hl hs
  go_enter Tryd.func30, Tryd.ntmps30
  go_wp2
  go_loopg [3, 4] x.length (fun gk u iv wr => ∃ i : Nat, i + gk = x.length ∧ iv = .int .i64 i ∧ Hid (wr.ownsRow w.heap.size 5 1 u (soFar x i).length (Lib.byteCells (soFar x i))) ∧ Below w.heap.size w wr)
  case atStart => exact ⟨0, by omega, rfl, World.ownsRow_nil _ _ _ _, Below.refl _ _⟩
  case round =>
    obtain ⟨i, hi, rfl, HO, hbe⟩ := hrel
    have HI := hid hi
    have hle := HLE.out i
    by_cases hlt : i < x.length
    · obtain ⟨b, o, rfl, hb0, hc⟩ := (HA.out.below hbe).at i hlt
      have hys := HSI.out _ (List.getElem_mem hlt)
      have HN := hid (soFar_next hlt)
      have HX2 : Hid (∀ w2, Below w.heap.size w w2 → w2.cell? ⟨b, o + i, none⟩ = some (.string x[i])) := fun w2 hb2 => by
        obtain ⟨b', o', e, _, h⟩ := (HA.out.below hb2).at i hlt
        cases e
        exact h
      have hul := un_len x[i]
      clear hi
      by_cases h0 : i = 0
      · subst h0
        rw [Nat.add_zero] at hc
        have HE : Hid (Lib.byteCells (soFar x 0) ++ Lib.strCells x[0] = Lib.byteCells (soFar x (0 + 1))) := by
          show _ = _
          rw [HN.out, if_pos rfl, Lib.strCells_eq]; rfl
        have HEL : Hid ((soFar x 0).length + x[0].size = (soFar x (0 + 1)).length) := by
          show _ = _
          rw [HN.out, if_pos rfl, ← hul]; simp [soFar_zero]
        generalize Lib.byteCells (soFar x 0) = bs at *
        generalize (soFar x 0).length = m at *
        generalize x[0] = y at *
        have hsz := hbe.size
        have hnp : ¬ (0 : Int) < 0 := by omega
        clear HN
        go_wp2_with (at_builtin; refine Lib.wpList_append_own_string _ rfl (.tmp 16) (.tmp 20) 26 9 rfl w.heap.size 5 i0 Tryd.underlying26 Tryd.underlying9 hi0 hz0 hz1 hz2 u3 m bs rfl HO.out y rfl ?c3 ?c4 hsz ?_)
        case c3 => unfold maxLen; omega
        case c4 => omega
        intro v3 w3 hown3 hgr3 _
        have HO3 : Hid (w3.ownsRow w.heap.size 5 1 v3 (soFar x (0 + 1)).length (Lib.byteCells (soFar x (0 + 1)))) := by
          show World.ownsRow _ _ _ _ _ _ _
          rw [← HE.out, ← HEL.out]; exact hown3
        have HB3 := hid (own_grown hbe HO.out hgr3 hsz)
        clear hown3 hgr3 hc
        go_wp2
        go_roundg (gk - 1)
        case measure => have := HI.out; omega
        case rel => exact ⟨0 + 1, by have := HI.out; omega, by go_num, HO3, HB3.out⟩
      · have hpos : (0 : Int) < (i : Int) := by omega
        have HE : Hid (Lib.byteCells (soFar x i) ++ [.int .u8 32] ++ Lib.strCells x[i] = Lib.byteCells (soFar x (i + 1))) := by
          show _ = _
          rw [HN.out, if_neg h0, Lib.strCells_eq, Lib.byteCells_append, Lib.byteCells_append]; rfl
        have HEL : Hid ((soFar x i).length + 1 + x[i].size = (soFar x (i + 1)).length) := by
          show _ = _
          rw [HN.out, if_neg h0, ← hul]; simp only [List.length_append, List.length_cons, List.length_nil]
        generalize Lib.byteCells (soFar x i) = bs at *
        generalize (soFar x i).length = m at *
        generalize x[i] = y at *
        have hO1 : Hid ((wr.alloc (.cells #[.int .u8 32] 5)).ownsRow w.heap.size 5 1 u3 m bs) := HO.out.alloc _
        have HCE : Hid ((wr.alloc (.cells #[.int .u8 32] 5)).cell? ⟨wr.heap.size, 0, none⟩ = some (.int .u8 32)) := by show _ = _; simp
        have hltw : wr.heap.size < (wr.alloc (.cells #[.int .u8 32] 5)).heap.size := by simp
        have HB1 := hid (hbe.alloc hbe.size (.cells #[.int .u8 32] 5))
        have HXB := hid (HA.out.below hbe)
        have hsz := HB1.out.size
        clear HN
        go_wp2_with (at_builtin; refine wpList_append_one rfl (.tmp 13) (.tmp 14) elemB rfl w.heap.size u3 rfl m bs hO1.out (by omega) wr.heap.size (.int .u8 32) rfl HCE.out hltw rfl hsz ?_)
        intro v2 w2 hown2 hgr
        have HO2 := hid hown2
        have HB2 := hid (own_grown HB1.out hO1.out hgr hsz)
        have hc2 := HX2.out w2 HB2.out
        have hsz2 := HB2.out.size
        clear hown2 hgr hO1 HCE HB1 hc
        go_wp2_with (at_builtin; refine Lib.wpList_append_own_string _ rfl (.tmp 16) (.tmp 20) 26 9 rfl w.heap.size 5 i0 Tryd.underlying26 Tryd.underlying9 hi0 hz0 hz1 hz2 v2 (m + 1) (bs ++ [.int .u8 32]) rfl HO2.out y rfl ?c3 ?c4 hsz2 ?_)
        case c3 => unfold maxLen; omega
        case c4 => omega
        intro v3 w3 hown3 hgr3 _
        have HO3 : Hid (w3.ownsRow w.heap.size 5 1 v3 (soFar x (i + 1)).length (Lib.byteCells (soFar x (i + 1)))) := by
          show World.ownsRow _ _ _ _ _ _ _
          rw [← HE.out, ← HEL.out, List.append_assoc]; exact hown3
        have HB3 := hid (own_grown HB2.out HO2.out hgr3 hsz2)
        clear hown3 hgr3 hc2
        go_wp2
        go_roundg (gk - 1)
        case measure => have := HI.out; omega
        case rel => exact ⟨i + 1, by have := HI.out; omega, by go_num, HO3, HB3.out⟩
    · obtain rfl : i = x.length := by omega
      have HE : Hid (Lib.byteCells (soFar x x.length) ++ [.int .u8 10] = Lib.byteCells (lineT (unW x))) := by
        show _ = _
        rw [← HAL.out, Lib.byteCells_append]; rfl
      have HEL : Hid ((soFar x x.length).length + 1 = (lineT (unW x)).length) := by
        show _ = _
        rw [← HAL.out, List.length_append]; rfl
      generalize Lib.byteCells (soFar x x.length) = bs at *
      generalize (soFar x x.length).length = m at *
      have hO1 : Hid ((wr.alloc (.cells #[.int .u8 10] 5)).ownsRow w.heap.size 5 1 u3 m bs) := HO.out.alloc _
      have HCE : Hid ((wr.alloc (.cells #[.int .u8 10] 5)).cell? ⟨wr.heap.size, 0, none⟩ = some (.int .u8 10)) := by show _ = _; simp
      have hltw : wr.heap.size < (wr.alloc (.cells #[.int .u8 10] 5)).heap.size := by simp
      have HB1 := hid (hbe.alloc hbe.size (.cells #[.int .u8 10] 5))
      have hsz := HB1.out.size
      clear hi
      go_wp2_with (at_builtin; refine wpList_append_one rfl (.tmp 22) (.tmp 23) elemB rfl w.heap.size u3 rfl m bs hO1.out (by omega) wr.heap.size (.int .u8 10) rfl HCE.out hltw rfl hsz ?_)
      intro v2 w2 hown2 hgr
      rw [HE.out, HEL.out] at hown2
      have HO2 := hid hown2
      have HB2 := hid (own_grown HB1.out hO1.out hgr hsz)
      clear hown2 hgr hO1 HCE HB1
      go_wp2
      go_ret
      exact ⟨_, rfl, HO2.out, HB2.out⟩

theorem bytes_back {w : World} {v : Value} {l : List UInt8} (h : ListAt w v (Lib.byteCells l)) : (convert 26 9 v).run Tryd.prog w = .ok (.string ⟨l.toArray⟩) w := by
  obtain ⟨ao, cap, rfl, _, hm, hz, _⟩ := h
  rw [Lib.byteCells_length]
  cases ao with
  | none =>
    have hl0 : l = [] := by
      by_cases hp : 0 < l.length
      · obtain ⟨b, off, hb, _⟩ := hm (by rw [Lib.byteCells_length]; exact hp)
        cases hb
      · exact List.eq_nil_of_length_eq_zero (by omega)
    subst hl0
    exact run_convert_bytes_nil w 26 5 Tryd.underlying26 Tryd.underlying5 _ _ 9 Tryd.underlying9
  | some a =>
    refine run_convert_bytes_back (P := Tryd.prog) w 26 9 5 a cap l Tryd.underlying26 Tryd.underlying5 Tryd.underlying9 fun j hj => ?_
    obtain ⟨b, off, e, _, hc⟩ := hm (by rw [Lib.byteCells_length]; omega)
    cases e
    have := hc j (by rw [Lib.byteCells_length]; exact hj)
    rw [show (⟨b, off, none⟩ : Addr).add j = ⟨b, off + j, none⟩ by unfold Addr.add; split <;> simp_all, this]
    simp [Lib.byteCells]

theorem jnR_long {l : List (List ByteArray)} (h : l.any badL = false) {i : Nat} (hg : 16384 < (textT ((unL l).take (i + 1))).length) : jnE (unL l) = 4 := by
  refine jn_great h ?_
  rw [textT_length (l := (unL l).take (i + 1)) (fun x hx => by
    obtain ⟨y, hy, rfl⟩ := List.mem_map.1 (List.mem_of_mem_take hx)
    have := List.any_eq_false.1 h y hy
    rw [badL_odd] at this
    exact (oddL_false.1 (by simpa using this)).1)] at hg
  have := szT_take_le (unL l) (i + 1)
  omega
theorem text_next {l : List (List ByteArray)} {i : Nat} (h : i < l.length) : textT ((unL l).take (i + 1)) = textT ((unL l).take i) ++ lineT (unW l[i]) := by
  have h2 : i < (unL l).length := by simpa using h
  rw [List.take_succ_eq_append_getElem h2, textT_append, textT_one]
  simp only [List.getElem_map]
theorem line_le {x : List ByteArray} : (lineT (unW x)).length ≤ szL (unW x) + 1 := by
  by_cases h : unW x = []
  · rw [h]; simp [lineT, Lib.join_nil]
  · rw [lineT_length h]; omega

set_option maxRecDepth 100000 in
set_option maxHeartbeats 4000000 in
theorem joinR_calls (va : Value) (l : List (List ByteArray)) (w : World) (hl : LinesAt w va l) (hf : Fits l) :
    Calls Tryd.prog 19 #[va] w (JnR l w) := by
  have HC := hid (mayAll_calls va l w hl hf)
  have HA := hid hl
  obtain ⟨ao, ac, rfl, hla⟩ := hl.slice
  have HF := hid hf
  have HO := hid (fun (h : l.any badL = true) => jnE_odd (l := unL l) (by rw [← any_bad]; exact h))
  have HLG := hid (@jn_long l)
  have HGR := hid (@jnR_long l)
  have HFI := hid (@jn_fine l)
  have hall := hf.all
  clear hl hf
  generalize hgb : l.any badL = gb at *
  cases gb with
  | true =>
    have HE := hid (HO.out rfl)
    clear HO HLG HGR HFI hgb
    go_enter Tryd.func19, Tryd.ntmps19
    go_wp2_with fail
    refine HC.out.mono ?_
    rintro e w1 ⟨rfl, hb⟩
    go_wp2
    go_ret2
    exact JnR.no HE.out (by decide) hb
  | false =>
    have HLG2 := hid (fun (i : Nat) (hi : i < l.length) hx => HLG.out rfl (i := i) hi hx)
    have HGR2 := hid (fun (i : Nat) hx => HGR.out rfl (i := i) hx)
    have HFI2 := hid (HFI.out rfl)
    have HTX := hid (textT_length (l := unL l) (fun x hx => by
      have h := hgb
      rw [any_bad] at h
      exact (oddL_false.1 (by simpa using List.any_eq_false.1 h x hx)).1))
    clear HO HLG HGR HFI hgb
    go_enter Tryd.func19, Tryd.ntmps19
    go_wp2_with fail
    refine HC.out.mono ?_
    rintro e w1 ⟨rfl, hb⟩
    clear HC
    go_wp2
    go_loopg [4, 5] l.length (fun gk u iv wr => ∃ i : Nat, i + gk = l.length ∧ iv = .int .i64 i ∧ Hid (wr.ownsRow w.heap.size 5 1 u (textT ((unL l).take i)).length (Lib.byteCells (textT ((unL l).take i)))) ∧ (textT ((unL l).take i)).length ≤ 16384 ∧ Hid (∀ j (h : j < l.length), j < i → l[j].length ≤ 64) ∧ Below w.heap.size w wr)
    case atStart => exact ⟨0, by omega, rfl, World.ownsRow_nil _ _ _ _, by simp [textT], (fun j h h2 => by omega), hb⟩
    case round =>
      obtain ⟨i, hi, rfl, HOW, htl, HS, hbe⟩ := hrel
      have HI := hid hi
      by_cases hlt : i < l.length
      · obtain ⟨b, o, pv, rfl, hb0, hc0, hp0⟩ := HA.out.at i hlt
        have HCX : Hid (∀ w2, Below w.heap.size w w2 → w2.cell? ⟨b, o + i, none⟩ = some pv) := fun w2 hb2 => (hb2.cell (p := ⟨b, _, none⟩) hb0).trans hc0
        have HSX : Hid (l[i].length ≤ 64 → ∀ j (h : j < l.length), j < i + 1 → l[j].length ≤ 64) := fun h j hj h2 => by
          by_cases e : j = i
          · subst e; exact h
          · exact HS.out j hj (by omega)
        have HLO := hid (HLG2.out i hlt)
        have HGO := hid (HGR2.out i)
        have HTN := hid (text_next hlt)
        have hsl := szT_take_le (unL l) (i + 1)
        rw [szT_snoc hlt] at hsl
        have hxw := HF.out.words _ (List.getElem_mem hlt)
        have HLN := hid (line_calls pv l[i] wr (hp0.below hbe) (HF.out.size _ (List.getElem_mem hlt)) (by omega) (by omega))
        have hll := line_le (x := l[i])
        rw [HTN.out] at HGO
        have HTE : Hid (Lib.byteCells (textT ((unL l).take i)) ++ Lib.byteCells (lineT (unW l[i])) = Lib.byteCells (textT ((unL l).take (i + 1)))) := by
          show _ = _
          rw [HTN.out, Lib.byteCells_append]
        have HTL : Hid ((textT ((unL l).take i)).length + (lineT (unW l[i])).length = (textT ((unL l).take (i + 1))).length) := by
          show _ = _
          rw [HTN.out, List.length_append]
        rw [List.length_append] at HGO
        obtain ⟨pa, pc, rfl, hpl⟩ := hp0.slice
        generalize lineT (unW l[i]) = L at *
        generalize l[i] = x at *
        have hxl2 : L.length ≤ 900001 := by omega
        have hc := HCX.out wr hbe
        clear hi hp0 hc0 hll hsl HTN
        generalize (textT ((unL l).take i)).length = n at *
        generalize Lib.byteCells (textT ((unL l).take i)) = bs at *
        go_wp2_with fail
        refine HLN.out.mono ?_
        rintro e w2 ⟨v, rfl, hv, hb2⟩
        have HB2 := hid (hbe.trans (hb2.mono hbe.size))
        have HO2 := hid (ownsRow_below HOW.out hb2)
        have HV := hid (list_of_owns hv (by rw [Lib.byteCells_length]; omega))
        have HV1 := hid (bytes_one L)
        have hsz := HB2.out.size
        have hblen : (Lib.byteCells L).length = L.length := Lib.byteCells_length L
        clear hv hb2 HLN hc
        generalize Lib.byteCells L = lb at *
        generalize L.length = ll at *
        go_wp2_with (at_builtin; refine wpList_append_list rfl (.tmp 15) (.tmp 20) elemB rfl w.heap.size u4 rfl n bs HO2.out (by omega) v lb rfl HV.out HV1.out (by omega) hsz ?_)
        intro u3 w3 hown3 hgr
        have HB3 := hid (own_grown HB2.out HO2.out hgr hsz)
        have HO3 := hid hown3
        have hc := HCX.out w3 HB3.out
        obtain ⟨ua, uc, rfl⟩ := own_slice hown3
        have HBF := HB3.out
        clear hown3 hgr HO2 HB2 HV HV1 hblen
        by_cases h64 : 64 < x.length
        · have HE := hid (HLO.out h64)
          go_wp2
          go_ret2
          exact JnR.no HE.out (by decide) HBF
        · have HS2 := hid (HSX.out (by omega))
          by_cases hg : 16384 < n + ll
          · have HE := hid (HGO.out hg)
            go_wp2
            go_ret2
            exact JnR.no HE.out (by decide) HBF
          · rw [HTE.out, HTL.out] at HO3
            have hn2 := HTL.out
            go_wp2
            go_roundg (gk - 1)
            case measure => have := HI.out; omega
            case rel => exact ⟨i + 1, by have := HI.out; omega, by go_num, hn2 ▸ HO3, by omega, HS2, HBF⟩
      · obtain rfl : i = l.length := by omega
        have e : (unL l).take l.length = unL l := List.take_of_length_le (by simp)
        rw [e] at HOW htl
        have HE := hid (HFI2.out (fun x hx => by
          obtain ⟨k, hk, rfl⟩ := List.getElem_of_mem hx
          exact HS.out k hk hk) (by rw [← HTX.out]; exact htl))
        have hbk := bytes_back (list_of_owns HOW.out (by rw [Lib.byteCells_length]; omega))
        obtain ⟨ua, uc, rfl⟩ := own_slice HOW.out
        clear hi e HS HLG2 HGR2 HFI2 HTX hall
        go_wp2
        go_ret2
        exact JnR.yes HE.out hbe
end Go.Proofs.YtfnibkepkomcdaaDoor.LxV
