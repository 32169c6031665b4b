/- Walk over fescuelaw04.FlatTypes. -/
import Derived.Test.YtindpgejnaofkaaFlLA
import Derived.Test.YtindpgejnaofkaaFlN
import Derived.BigQuiet
namespace Go.Proofs.Ytindpgejnaofkaa.FlLC
open Go.RowKit Go.Lib Go.Shelf SetP IntO TyM TyP TyB TyC TyD TyE TyS TyF TyH TyK TyQ TyW TyRT TyRE TyN FlM FlQ FlW FlX FlF FlG FlN FlLA

theorem info_bool : (Try.prog.info? 4).map (fun i => (i.zero, i.size, i.bytes)) = some (some (.bool false), 1, 1) := by kernel_rfl
/-- a row of bools that the call owns -/
def RowB (B g : Nat) (bs : List Bool) (w : World) : Prop := w.ownsRow B 4 1 (.slice (some ⟨g, 0, none⟩) bs.length bs.length) bs.length (bs.map Value.bool)
theorem RowB.below {B g : Nat} {bs : List Bool} {w w' : World} (h : RowB B g bs w) (hb : Below w.heap.size w w') : RowB B g bs w' := ownsRow_below h hb
theorem RowB.at {B g : Nat} {bs : List Bool} {w : World} (h : RowB B g bs w) (i : Nat) (hi : i < bs.length) : ∃ b, bs[i]? = some b ∧ B ≤ g ∧ w.cell? ⟨g, i, none⟩ = some (.bool b) ∧ w.frozen? ⟨g, i, none⟩ = false := by
  obtain ⟨g2, c2, he, hg, _, _, hc⟩ := row_cells h (by rw [List.length_map]; omega)
  cases he
  exact ⟨bs[i], List.getElem?_eq_getElem hi, hg, hc i _ (by simp [hi]), h.frozenAt i⟩
theorem RowB.set {B g : Nat} {bs : List Bool} {w : World} (h : RowB B g bs w) (i : Nat) (b : Bool) : RowB B g (bs.set i b) (w.setCell ⟨g, i, none⟩ (.bool b)) := by
  have := (h.stored i (.bool b)).1
  unfold RowB
  rw [List.length_set, List.map_set]
  exact this
theorem made_bools (n : Nat) : (madeCells (Value.bool false).cells n).toList = (List.replicate n false).map Value.bool := by
  apply List.ext_getElem
  · rw [Array.length_toList, size_madeCells]; simp
  · intro i h1 h2
    simp [madeCells, Value.cells, Nat.mod_one]
theorem row_made (w : World) (B n : Nat) (hB : B ≤ w.heap.size) (hn : n ≤ 1000) : RowB B w.heap.size (List.replicate n false) (w.alloc (.cells (madeCells (Value.bool false).cells n) 4)) := by
  unfold RowB
  refine ⟨by simp, .inr ⟨w.heap.size, _, _, rfl, hB, heap_alloc_new w _, Nat.le_refl _, by rw [List.length_replicate]; unfold maxLen; omega, by rw [size_madeCells]; simp, ?_⟩⟩
  rw [List.length_replicate, Nat.mul_one, made_bools, List.take_of_length_le (by simp)]

/-- what the first i cells have met -/
def Met (t : List Ty) (k : Int) (i : Nat) (bs : List Bool) : Prop := ∀ (j m : Nat), j < i → flatC t k j = m → m < bs.length → bs[m]? = some true
theorem met_next {t : List Ty} {k : Int} {i m : Nat} {bs : List Bool} (h : Met t k i bs) (hm : flatC t k i = m) : Met t k (i + 1) (bs.set m true) := by
  intro j q hj hq hl
  rw [List.length_set] at hl
  rw [List.getElem?_set]
  by_cases e : m = q
  · rw [if_pos e, if_pos (by omega)]
  · rw [if_neg e]
    refine h j q ?_ hq hl
    by_cases e2 : j = i
    · subst e2; rw [hm] at hq; omega
    · omega
theorem arr_next {t : List Ty} {i : Nat} (h : i < t.length) : arrB (t.take (i + 1)) = (arrB (t.take i) || (t[i].kind == 5)) := by
  unfold arrB
  rw [List.take_succ_eq_append_getElem h, List.any_append]
  simp only [List.any_cons, List.any_nil, Bool.or_false]
  congr 1

set_option maxRecDepth 100000 in
set_option maxHeartbeats 4000000 in
theorem walk (W : World) (v : Value) (t : List Ty) (S : TysAt W v t) (_ : ∀ x ∈ t, TyOk x) (k : Int) (_ : (Lit.int .i64 k).wf = true) :
    Calls Try.prog 6 #[v, .int .i64 k] W fun e W' => e = .returned (.bool true) ∧ Below W.heap.size W W' := by
  have HT := hid S
  have HAL := hid (alive_calls W)
  have HG := hid (fun wx (hb : Below W.heap.size W wx) => great_calls v t wx (S.below hb))
  have HFI := hid (fun wx (hb : Below W.heap.size W wx) => fields_calls t v k wx (S.below hb))
  have HCE := hid (fun wx (hb : Below W.heap.size W wx) => cells_calls t v k wx (S.below hb))
  have HFL := hid (fun d wx (hb : Below W.heap.size W wx) => flat_calls t v k d wx (S.below hb))
  obtain ⟨ao, cap, rfl⟩ := S.slice
  have htl : t.length ≤ 9223372036854775807 := by obtain ⟨_, _, _, h, _⟩ := S; exact h
  clear S
  generalize greatB t = g at *
  cases g with
  | true =>
    clear HFI HCE HFL HT htl
    generalize t.length = n at *
    go_enter Try.func6, Try.ntmps6
    go_wp2_with fail
    refine HAL.out.mono ?_
    rintro e w1 ⟨rfl, hb1⟩
    have HG1 := hid (HG.out w1 hb1)
    go_wp2_with fail
    refine HG1.out.mono ?_
    rintro e w2 ⟨rfl, hb2⟩
    have hbe := hb1.trans (hb2.mono hb1.size)
    go_wp2
    go_ret
    exact ⟨rfl, hbe⟩
  | false =>
    have hfl := flat_len t k
    have hll := list_len t k
    have HNF := hid (@flat_no t k)
    have HAT := hid (@types_at t k)
    have HALL := hid (@types_all t k)
    have HLE := hid (@types_le t k)
    have HPL := hid (@types_plain t k)
    go_enter Try.func6, Try.ntmps6
    go_wp2_with fail
    refine HAL.out.mono ?_
    rintro e w1 ⟨rfl, hb1⟩
    have HG1 := hid (HG.out w1 hb1)
    go_wp2_with fail
    refine HG1.out.mono ?_
    rintro e w2 ⟨rfl, hb2⟩
    have hbe2 := hb1.trans (hb2.mono hb1.size)
    have HC := hid (HFI.out w2 hbe2)
    clear hb1 hb2 HG HG1 HAL HFI
    go_wp2_with fail
    refine HC.out.mono ?_
    rintro e w3 ⟨l, m, rfl, hl, hb3⟩
    obtain rfl := own_len hl
    obtain ⟨la, lc, rfl⟩ := own_slice hl
    have HL3 := hid (intsAt_of_owns hl (by omega))
    have hbe3 := hbe2.trans (hb3.mono hbe2.size)
    have HC := hid (HCE.out w3 hbe3)
    clear hl hb3 hbe2 HCE
    go_wp2_with fail
    refine HC.out.mono ?_
    rintro e w4 ⟨c, rfl, hc, hb4⟩
    obtain ⟨ca, cc, rfl, _⟩ := ints_slice hc
    have HC4 := hid hc
    have HL4 := hid (HL3.out.below hb4)
    have hbe4 := hbe3.trans (hb4.mono hbe3.size)
    have HB4 := hid hbe4
    clear hc hb4 hbe3 HC HL3
    by_cases ha : askT t k = 0
    · rw [ha]
      have HAT2 := hid (HAT.out ha)
      have HALL2 := hid (HALL.out ha)
      have hle := HLE.out ha
      have HPL2 := hid (HPL.out ha)
      clear HNF HAT HALL HLE HPL ha
      generalize flatT t k = fl at *
      generalize listT t k = cl at *
      obtain ⟨i0, hi, hz0, hz1, hz2⟩ := info_parts info_bool
      have hmk : ∀ wx : World, (Instr.makeSlice 41 (.int .i64 (fl.length : Int)) (.int .i64 (fl.length : Int))).run Try.prog wx = .ok (.slice (some ⟨wx.heap.size, 0, none⟩) fl.length fl.length) (wx.alloc (.cells (madeCells (Value.bool false).cells fl.length) 4)) := by
        intro wx
        have := run_make (P := Try.prog) wx 41 4 i0 (.bool false) Try.underlying41 hi hz0 .i64 .i64 fl.length fl.length (by omega) (by omega) (by rw [hz2]; omega) (by omega)
        rw [hz1, Int.toNat_natCast, Nat.mul_one] at this
        exact this
      have HR0 := hid (row_made w4 w4.heap.size fl.length (Nat.le_refl _) (by omega))
      have hba : Below w4.heap.size w4 (w4.alloc (.cells (madeCells (Value.bool false).cells fl.length) 4)) := (Below.refl _ _).alloc (Nat.le_refl _) _
      have HBA := hid hba
      have hle2 : ¬ (cl.length : Int) < fl.length := by omega
      have hle3 : ¬ cl.length < fl.length := by omega
      clear hi hba hbe4
      go_wp2
      go_loopg [11] cl.length (fun gk iv wr => ∃ (i : Nat) (bs : List Bool), i + gk = cl.length ∧ iv = .int .i64 i ∧ bs.length = fl.length ∧ RowB w4.heap.size w4.heap.size bs wr ∧ Met t k i bs ∧ Below w4.heap.size w4 wr)
      case atStart => exact ⟨0, List.replicate fl.length false, by omega, rfl, by simp, HR0.out, fun j m hj => by omega, HBA.out⟩
      case round =>
        obtain ⟨i, bs, hi, rfl, hbl, hrow, hmet, hbe⟩ := hrel
        have HI := hid hi
        have HBL := hid hbl
        have HROW := hid hrow
        have HMET := hid hmet
        clear hi hrow hmet hmk hbl
        by_cases hlt : i < cl.length
        · obtain ⟨e1, m, e2, hm, e3⟩ := HAT2.out i hlt
          rw [List.getElem?_eq_getElem hlt] at e3
          obtain ⟨b1, o1, rfl, _, c1⟩ := ints_get (HL4.out.below hbe) e3
          obtain ⟨b2, o2, rfl, _, c2⟩ := ints_at (HC4.out.below hbe) i hlt
          have hbW := HB4.out.trans (hbe.mono HB4.out.size)
          have HF := hid (HFL.out i wr hbW)
          rw [e1, e2] at HF
          have HMN := hid (met_next HMET.out e2)
          have HC1 := hid (And.intro c1 c2)
          have HBE := hid hbe
          clear e1 e2 e3 hbW c1 c2 hbe
          generalize cl[i] = y at *
          go_wp2_with fail
          refine HF.out.mono ?_
          rintro e w5 ⟨rfl, hb5⟩
          have c1 := keep_below hb5 HC1.out.1
          have c2 := keep_below hb5 HC1.out.2
          have hbe5 := HBE.out.trans (hb5.mono HBE.out.size)
          have HR5 := hid (HROW.out.below hb5)
          have hm1 : (m : Int) < (fl.length : Int) := by omega
          have hm2 : ¬ (fl.length : Int) ≤ m := by omega
          have hm3 : ¬ (m : Int) < 0 := by omega
          have hlti : (i : Int) < (cl.length : Int) := by omega
          have hyy : (y != y) = false := by simp
          clear hb5 HF HBE HC1 HROW
          go_wp2_with fail
          go_quiet (fail)
          obtain ⟨wd, hwd⟩ : ∃ wd : World, wd = w5.drewN nq := ⟨_, rfl⟩
          have hbd : Below w5.heap.size w5 wd := by rw [hwd]; exact below_drewN (Below.refl _ _) nq
          rw [← hwd]
          clear hwd
          have HRD := hid (HR5.out.below hbd)
          have hbed := hbe5.trans (hbd.mono hbe5.size)
          obtain ⟨bm, _, hgB, hy, hfz⟩ := HRD.out.at m (by rw [HBL.out]; exact hm)
          have HRS := hid (HRD.out.set m true)
          have HBS := hid (hbed.setCell (p := ⟨w4.heap.size, m, none⟩) (Nat.le_refl _) (.bool true))
          clear hbd hbe5 HR5 HRD c1 c2 hyy
          go_wp2
          go_roundg (gk - 1)
          case measure => have := HI.out; omega
          case rel => exact ⟨i + 1, bs.set m true, by have := HI.out; omega, by go_num, by rw [List.length_set]; exact HBL.out, HRS.out, HMN.out, HBS.out⟩
        · obtain rfl : i = cl.length := by have := HI.out; omega
          have hbl := HBL.out
          have HAL : Hid (∀ m, m < fl.length → bs[m]? = some true) := fun m hm => by
            obtain ⟨j, hj, he⟩ := HALL2.out m hm
            exact HMET.out j m hj he (by omega)
          have hbW := HB4.out.trans (hbe.mono HB4.out.size)
          have HLW := hid (HL4.out.below hbe)
          have HCW := hid (HC4.out.below hbe)
          have HBW := hid hbW
          clear HI HMET HBA HR0 HALL2 HAT2 hbW hbe HC4 HL4
          obtain ⟨wo, hwo⟩ : ∃ wo : World, wo = wr := ⟨wr, rfl⟩
          subst hwo
          go_wp2
          go_loopg [14] fl.length (fun gk iv wr => ∃ i : Nat, i + gk = fl.length ∧ iv = .int .i64 i ∧ Below wo.heap.size wo wr)
          case atStart => exact ⟨0, by omega, rfl, Below.refl _ _⟩
          case round =>
            obtain ⟨i, hi, rfl, hbx⟩ := hrel
            have HI := hid hi
            clear hi
            by_cases hlt2 : i < fl.length
            · have HRX := hid (HROW.out.below hbx)
              obtain ⟨b, hb, _, hy, _⟩ := HRX.out.at i (by omega)
              have hbt := HAL.out i hlt2
              rw [hb] at hbt
              obtain rfl : b = true := Option.some.inj hbt
              have hlti : (i : Int) < (fl.length : Int) := by omega
              clear hbt hb
              go_wp2
              go_roundg (gk - 1)
              case measure => have := HI.out; omega
              case rel => exact ⟨i + 1, by have := HI.out; omega, by go_num, hbx⟩
            · obtain rfl : i = fl.length := by have := HI.out; omega
              have HBX := hid hbx
              have HLX := hid (HLW.out.below hbx)
              have HCX := hid (HCW.out.below hbx)
              have HBY := hid (HBW.out.trans (hbx.mono HBW.out.size))
              clear hbx HAL HLW HCW HBW HROW hbl HBL
              obtain ⟨wx, hwx⟩ : ∃ wx : World, wx = wr := ⟨wr, rfl⟩
              subst hwx
              go_wp2
              go_loopg [15, 16] t.length (fun gk av iv wr => ∃ i : Nat, i + gk = t.length ∧ iv = .int .i64 i ∧ av = .bool (arrB (t.take i)) ∧ Below wx.heap.size wx wr)
              case atStart => exact ⟨0, by omega, rfl, rfl, Below.refl _ _⟩
              case round =>
                obtain ⟨i, hi, rfl, rfl, hby⟩ := hrel
                have HI := hid hi
                clear hi
                by_cases hlt3 : i < t.length
                · obtain ⟨tb, off, rfl, _, pv, d0, _, _, _, _⟩ := (HT.out.below (HBY.out.trans (hby.mono HBY.out.size))).at i hlt3
                  have HAN := hid (arr_next hlt3)
                  have hlti : (i : Int) < (t.length : Int) := by omega
                  generalize t[i].kind = kd at *
                  generalize arrB (t.take i) = ab at *
                  cases ab with
                  | true =>
                    go_wp2
                    go_roundg (gk - 1)
                    case measure => have := HI.out; omega
                    case rel => exact ⟨i + 1, by have := HI.out; omega, by go_num, by rw [HAN.out]; simp, hby⟩
                  | false =>
                    go_wp2
                    go_roundg (gk - 1)
                    case measure => have := HI.out; omega
                    case rel => exact ⟨i + 1, by have := HI.out; omega, by go_num, by rw [HAN.out]; simp, hby⟩
                · obtain rfl : i = t.length := by have := HI.out; omega
                  have HTL : Hid (t.take t.length = t) := List.take_of_length_le (Nat.le_refl _)
                  rw [HTL.out]
                  have hbz := HBY.out.trans (hby.mono HBY.out.size)
                  have HSI := hid (sameInts_calls _ _ fl cl wr (HLX.out.below hby) (HCX.out.below hby))
                  have hPL := HPL2.out
                  clear HLX HCX HBY HTL HBX HI hby
                  cases hab : arrB t with
                  | true =>
                    clear hPL hab HSI
                    go_wp2
                    go_ret
                    exact ⟨rfl, hbz⟩
                  | false =>
                    have he := hPL hab
                    rw [decide_eq_true he] at HSI
                    clear hPL hab he
                    go_wp2_with fail
                    refine HSI.out.mono ?_
                    rintro e wf ⟨rfl, hbf⟩
                    have hbq := hbz.trans (hbf.mono hbz.size)
                    clear hbf hbz
                    go_wp2
                    go_ret
                    exact ⟨rfl, hbq⟩
    · rw [HNF.out ha] at HL4 ⊢
      have hne : (askT t k != 0) = true := by simpa using ha
      clear HNF HAT HALL HLE HPL ha HFL HT
      generalize askT t k = er at *
      generalize listT t k = cl at *
      generalize t.length = n at *
      go_wp2
      go_ret
      exact ⟨by simp, hbe4⟩
end Go.Proofs.Ytindpgejnaofkaa.FlLC
