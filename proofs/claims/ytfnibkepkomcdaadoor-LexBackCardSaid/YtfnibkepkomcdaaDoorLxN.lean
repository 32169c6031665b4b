/- Walks over lex.join and lex.Join. -/
import Derived.Test.YtfnibkepkomcdaaDoorLxO
import Derived.Test.YtfnibkepkomcdaaDoorLxB
namespace Go.Proofs.YtfnibkepkomcdaaDoor.LxN
open Go.RowKit Go.Lib LxM LxP LxK LxJ LxS LxY LxO LxB

/-- what Join answers -/
def JnR (l : List (List ByteArray)) (w : World) (e : Ending) (w' : World) : Prop :=
  e = .returned (.tuple #[.string (mk (jnT (unL l))), .int .i64 (jnE (unL l))]) ∧ Below w.heap.size w w'
/-- lines that are not too great to be gone through -/
structure Fits (l : List (List ByteArray)) : Prop where
  lines : l.length ≤ 20000
  words : ∀ x ∈ l, x.length ≤ 10000
  size : ∀ x ∈ l, ∀ y ∈ x, y.size ≤ 1000000
  all : szT (unL l) ≤ 900000
theorem szL_snoc {x : List ByteArray} {j : Nat} (h : j < x.length) : szL ((unW x).take (j + 1)) = szL ((unW x).take j) + (x[j].size + 1) := by
  have h2 : j < (unW x).length := by simpa using h
  rw [List.take_succ_eq_append_getElem h2, szL_append, szL_one]
  simp only [List.getElem_map, un_len]
theorem szT_snoc {l : List (List ByteArray)} {i : Nat} (h : i < l.length) : szT ((unL l).take (i + 1)) = szT ((unL l).take i) + szL (unW l[i]) := by
  have h2 : i < (unL l).length := by simpa using h
  rw [List.take_succ_eq_append_getElem h2, szT_append, szT_one]
  simp only [List.getElem_map]
theorem any_bad (l : List (List ByteArray)) : l.any badL = (unL l).any oddL := by
  rw [List.any_map]
  congr 1
  funext x
  exact badL_odd x
theorem jn_long {l : List (List ByteArray)} (h : l.any badL = false) {i : Nat} (hi : i < l.length) (hl : 64 < l[i].length) : jnE (unL l) = 4 := by
  rw [any_bad] at h
  refine jnE_many h (.inl ⟨unW l[i], List.mem_map_of_mem (List.getElem_mem hi), by simpa using hl⟩)
theorem jn_great {l : List (List ByteArray)} (h : l.any badL = false) (hs : 16384 < szT (unL l)) : jnE (unL l) = 4 := by
  rw [any_bad] at h
  exact jnE_many h (.inr hs)
theorem jn_fine {l : List (List ByteArray)} (h : l.any badL = false) (h2 : ∀ x ∈ l, x.length ≤ 64) (h3 : szT (unL l) ≤ 16384) : jnE (unL l) = 0 := by
  rw [any_bad] at h
  refine jnE_ok h (fun x hx => ?_) h3
  obtain ⟨y, hy, rfl⟩ := List.mem_map.1 hx
  simpa using h2 y hy
theorem JnR.no {l : List (List ByteArray)} {w w' : World} {c : Int} (h : jnE (unL l) = c) (hc : c ≠ 0) (hb : Below w.heap.size w w') : JnR l w (.returned (.tuple #[.string ⟨#[]⟩, .int .i64 c])) w' :=
  ⟨by rw [h, jnT_no (by rw [h]; exact hc)]; rfl, hb⟩
theorem JnR.yes {l : List (List ByteArray)} {w w' : World} (h : jnE (unL l) = 0) (hb : Below w.heap.size w w') : JnR l w (.returned (.tuple #[.string ⟨(textT (unL l)).toArray⟩, .int .i64 0])) w' :=
  ⟨by rw [h, jnT_ok h]; rfl, hb⟩

theorem bld_below {B b : Nat} {bs : List Value} {w w' : World} (h : Bld B b bs w) (hb : Below w.heap.size w w') : Bld B b bs w' := by
  have key : ∀ {p : Value}, Lib.BuilderAt 62 5 B b p bs w → Lib.BuilderAt 62 5 B b p bs w' := by
    rintro p ⟨h1, v, h2, h3, h4⟩
    exact ⟨h1, v, (hb.block b (Array.getElem?_eq_some_iff.1 h2).1).trans h2, ownsRow_below h3 hb, h4⟩
  rcases h with h | h
  · exact .inl (key h)
  · exact .inr (key h)
theorem cells_line (T : List UInt8) (x : List Word) : Lib.byteCells T ++ Lib.strCells (mk (Lib.join x [32])) ++ [.int .u8 10] = Lib.byteCells (T ++ lineT x) := by
  unfold lineT
  rw [Lib.strCells_eq, show (mk (Lib.join x [32])).data.toList = Lib.join x [32] from un_mk _, Lib.byteCells_append, Lib.byteCells_append, List.append_assoc]
  rfl

set_option maxRecDepth 100000 in
set_option maxHeartbeats 4000000 in
theorem join_calls (va : Value) (l : List (List ByteArray)) (w : World) (hl : LinesAt w va l) (hf : Fits l) (hgood : l.any badL = false) :
    Calls Tryd.prog 24 #[va] w (JnR l w) := by
  have HA := hid hl
  obtain ⟨ao, ac, rfl, hla⟩ := hl.slice
  have HF := hid hf
  have HG := hid hgood
  have hlen := hf.lines
  have hall := hf.all
  clear hl hf hgood
  go_enter Tryd.func24, Tryd.ntmps24
  go_wp2
  go_loopg [4, 14] l.length (fun gk sv iv wr => ∃ i : Nat, i + gk = l.length ∧ iv = .int .i64 i ∧ sv = .int .i64 (szT ((unL l).take i) : Nat) ∧ Hid (∀ j (h : j < l.length), j < i → l[j].length ≤ 64) ∧ Below w.heap.size w wr)
  case atStart => exact ⟨0, by omega, rfl, by simp [szT], (fun j h h2 => by omega), Below.refl _ _⟩
  case round =>
    obtain ⟨i, hi, rfl, rfl, HS, hbe⟩ := hrel
    have HI := hid hi
    have hst := szT_take_le (unL l) i
    by_cases hlt : i < l.length
    · obtain ⟨b, o, pv, rfl, hb0, hc, hp⟩ := (HA.out.below hbe).at i hlt
      have HSN := hid (szT_snoc hlt)
      have hst1 := szT_take_le (unL l) (i + 1)
      rw [HSN.out] at hst1
      have HSX : Hid (l[i].length ≤ 64 → ∀ j (h : j < l.length), j < i + 1 → l[j].length ≤ 64) := fun h j hj h2 => by
        by_cases e : j = i
        · subst e; exact h
        · exact HS.out j hj (by omega)
      have HLO := hid (jn_long HG.out hlt)
      have HSI := hid (HF.out.size _ (List.getElem_mem hlt))
      have hxw := HF.out.words _ (List.getElem_mem hlt)
      generalize l[i] = x at *
      have HP := hid hp
      obtain ⟨pa, pc, rfl, hpl⟩ := hp.slice
      generalize szT ((unL l).take i) = n at *
      clear hp hi
      by_cases h64 : 64 < x.length
      · have HE := hid (HLO.out h64)
        clear HP HSN HSX HLO HSI hst1
        generalize x.length = m at *
        go_wp2
        go_ret2
        exact JnR.no HE.out (by decide) hbe
      · have HS2 := hid (HSX.out (by omega))
        have hgl : ∀ k, szL ((unW x).take k) ≤ szL (unW x) := fun k => szL_take_le _ _
        have HGL := hid hgl
        clear hgl HSX HLO
        go_wp2
        obtain ⟨wo, hwo⟩ : ∃ wo : World, wo = wr := ⟨wr, rfl⟩
        subst hwo
        obtain ⟨go, hgo⟩ : ∃ go : Nat, go = gk := ⟨gk, rfl⟩
        subst hgo
        clear hc
        go_loopg [4, 23] x.length (fun gk nv jv wr => ∃ j : Nat, j + gk = x.length ∧ jv = .int .i64 j ∧ nv = .int .i64 ((n + szL ((unW x).take j) : Nat) : Int) ∧ Below wo.heap.size wo wr)
        case atStart => exact ⟨0, by omega, rfl, by simp [szL], Below.refl _ _⟩
        case round =>
          obtain ⟨j, hj, rfl, rfl, hbj⟩ := hrel
          have HJ := hid hj
          have hg1 := HGL.out j
          by_cases hjl : j < x.length
          · obtain ⟨xb, xo, rfl, _, cx⟩ := (HP.out.below hbj).at j hjl
            have HGS := hid (szL_snoc hjl)
            have hys := HSI.out _ (List.getElem_mem hjl)
            generalize x[j] = y at *
            generalize szL ((unW x).take j) = g at *
            clear hj
            go_wp2
            go_roundg (gk - 1)
            case measure => have := HJ.out; omega
            case rel => exact ⟨j + 1, by have := HJ.out; omega, by go_num, by rw [HGS.out]; go_num, hbj⟩
          · obtain rfl : j = x.length := by omega
            have hbb := hbe.trans (hbj.mono hbe.size)
            have e : (unW x).take x.length = unW x := List.take_of_length_le (by simp)
            rw [e] at *
            generalize szL (unW x) = g at *
            clear hj
            go_wp2
            go_roundg (go - 1)
            case measure => have := HI.out; omega
            case rel => exact ⟨i + 1, by have := HI.out; omega, by go_num, by rw [HSN.out]; go_num, HS2, hbb⟩
    · obtain rfl : i = l.length := by omega
      have e : (unL l).take l.length = unL l := List.take_of_length_le (by simp)
      rw [e] at *
      have HS2 : Hid (∀ x ∈ l, x.length ≤ 64) := fun x hx => by
        obtain ⟨k, hk, rfl⟩ := List.getElem_of_mem hx
        exact HS.out k hk hk
      have HGR := hid (jn_great HG.out)
      have HFI := hid (jn_fine HG.out HS2.out)
      have HT := hid (textT_length (l := unL l) (fun x hx => by
        have h := HG.out
        rw [any_bad] at h
        exact (oddL_false.1 (by simpa using List.any_eq_false.1 h x hx)).1))
      clear hi e
      generalize hsz : szT (unL l) = sz at *
      by_cases hbig : 16384 < sz
      · have HE := hid (HGR.out hbig)
        clear HGR HFI HS2 HS HF HT hsz
        go_wp2
        go_ret2
        exact JnR.no HE.out (by decide) hbe
      · have HE := hid (HFI.out (by omega))
        have hsz2 : szT (unL l) ≤ 16384 := by rw [hsz]; omega
        have HSZ := hid hsz2
        clear HGR HFI HS2 HS hsz hsz2
        obtain ⟨wo, hwo⟩ : ∃ wo : World, wo = wr := ⟨wr, rfl⟩
        subst hwo
        have HB0 : Hid (Bld wo.heap.size wo.heap.size (Lib.byteCells (textT ((unL l).take 0))) (wo.alloc (.cells #[.pointer none, .slice none 0 0] 62))) := Lib.fresh_isBuilder _ _ wo
        have HBA := hid (alloc_below wo (.cells #[.pointer none, .slice none 0 0] 62))
        have HBE := hid hbe
        have HLT := hid (fun x (hx : x ∈ l) => lineT_length (x := unW x) (by
          have h := HG.out
          have := List.any_eq_false.1 h x hx
          rw [badL_odd] at this
          exact (oddL_false.1 (by simpa using this)).1))
        clear hbe hlt
        go_wp2
        go_loopg [38] l.length (fun gk iv wx => ∃ k : Nat, k + gk = l.length ∧ iv = .int .i64 k ∧ Hid (Bld wo.heap.size wo.heap.size (Lib.byteCells (textT ((unL l).take k))) wx) ∧ Hid (Below wo.heap.size wo wx))
        case atStart => exact ⟨0, by omega, rfl, HB0, HBA⟩
        case round =>
          obtain ⟨k, hk, rfl, HBL, HBW⟩ := hrel
          have HK := hid hk
          by_cases hlt : k < l.length
          · have hbw := HBE.out.trans (HBW.out.mono HBE.out.size)
            obtain ⟨b, o, pv, rfl, hb0, hc, hp⟩ := (HA.out.below hbw).at k hlt
            have hxl := HLT.out _ (List.getElem_mem hlt)
            have hxw := HF.out.words _ (List.getElem_mem hlt)
            have h1 := szT_take_le (unL l) (k + 1)
            rw [szT_snoc hlt] at h1
            have h2 := HSZ.out
            have HTN : Hid (textT ((unL l).take (k + 1)) = textT ((unL l).take k) ++ lineT (unW l[k])) := by
              show _ = _
              have h2 : k < (unL l).length := by simpa using hlt
              rw [List.take_succ_eq_append_getElem h2, textT_append, textT_one]
              simp only [List.getElem_map]
            have HTL : Hid ((textT ((unL l).take k)).length ≤ 16384) := by
              show _ ≤ _
              rw [textT_length (l := (unL l).take k) (fun x hx => by
                obtain ⟨y, hy, rfl⟩ := List.mem_map.1 (List.mem_of_mem_take hx)
                have := List.any_eq_false.1 HG.out y hy
                rw [badL_odd] at this
                exact (oddL_false.1 (by simpa using this)).1)]
              have := szT_take_le (unL l) k
              omega
            generalize l[k] = x at *
            have hjl : (Lib.join (x.map (·.data.toList)) [32]).length ≤ 16384 := by
              unfold lineT at hxl
              rw [List.length_append] at hxl
              have : (Lib.join (unW x) [32]).length + 1 = szL (unW x) := hxl
              have e : (Lib.join (x.map (·.data.toList)) [32]).length = (Lib.join (unW x) [32]).length := rfl
              omega
            have HC := hid (joinS_calls pv x wr hp (by omega) (by omega))
            have HCL := hid (cells_line (textT ((unL l).take k)) (unW x))
            change Hid (Lib.byteCells _ ++ Lib.strCells ⟨(Lib.join (x.map (·.data.toList)) [32]).toArray⟩ ++ _ = _) at HCL
            rw [← HTN.out] at HCL
            have hys : (⟨(Lib.join (x.map (·.data.toList)) [32]).toArray⟩ : ByteArray).size ≤ 16384 := by rw [show (⟨(Lib.join (x.map (·.data.toList)) [32]).toArray⟩ : ByteArray) = mk (Lib.join (x.map (·.data.toList)) [32]) from rfl, mk_size]; exact hjl
            generalize (⟨(Lib.join (x.map (·.data.toList)) [32]).toArray⟩ : ByteArray) = y at *
            generalize hT : textT ((unL l).take k) = T at *
            have hbl : (Lib.byteCells T).length ≤ 16384 := by rw [Lib.byteCells_length]; exact HTL.out
            generalize Lib.byteCells T = bs at *
            obtain ⟨pa, pc, rfl, hpl⟩ := hp.slice
            clear hp hk hT HTN HTL hxl hjl h1 h2 hbw
            go_wp2_with fail
            refine HC.out.mono ?_
            rintro e w1 ⟨rfl, hb1⟩
            have HB1 := hid (bld_below HBL.out hb1)
            have HW1 := hid (HBW.out.trans (hb1.mono HBW.out.size))
            have HS1 := hid (writeS_calls _ _ _ y w1 HB1.out (by omega) HW1.out.size)
            clear hb1 HC hc
            go_wp2_with fail
            refine HS1.out.mono ?_
            rintro e w2 ⟨rfl, h2, hb2⟩
            have HW2 := hid (HW1.out.trans hb2)
            have HS2 := hid (writeB_calls _ _ _ 10 w2 (.inr h2) (by rw [List.length_append, Lib.strCells_length]; omega) HW2.out.size)
            clear h2 hb2 HS1
            go_wp2_with fail
            refine HS2.out.mono ?_
            rintro e w3 ⟨rfl, h3, hb3⟩
            have HW3 := hid (HW2.out.trans hb3)
            rw [HCL.out] at h3
            have H3 := hid (Or.inr h3 : Bld wo.heap.size wo.heap.size (Lib.byteCells (textT ((unL l).take (k + 1)))) w3)
            clear h3 hb3 HS2 HCL
            go_wp2
            go_roundg (gk - 1)
            case measure => have := HK.out; omega
            case rel => exact ⟨k + 1, by have := HK.out; omega, by go_num, H3, HW3⟩
          · obtain rfl : k = l.length := by omega
            have e : (unL l).take l.length = unL l := List.take_of_length_le (by simp)
            rw [e] at HBL
            have HST := hid (Tryd.Builder_String_any _ _ _ wr HBL.out HBW.out.size)
            have HF2 := hid (HBE.out.trans (HBW.out.mono HBE.out.size))
            have HSZ2 := hid HBE.out.size
            clear hk e
            go_wp2_with fail
            refine HST.out.mono ?_
            rintro e w1 ⟨rfl, hb1⟩
            have hbf := HBE.out.trans ((HBW.out.trans hb1).mono HBE.out.size)
            clear hb1 HST
            go_wp2
            go_ret2
            exact JnR.yes HE.out hbf
end Go.Proofs.YtfnibkepkomcdaaDoor.LxN
