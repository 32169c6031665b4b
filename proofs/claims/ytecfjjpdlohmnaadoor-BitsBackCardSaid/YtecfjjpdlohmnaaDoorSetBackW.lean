/- Walk over the statement BitsBack. -/
import Derived.Test.YtecfjjpdlohmnaaDoorSetBackP
import Derived.Deep.Cut
import Derived.Deep.CutRange
import Derived.Deep.DeepCutAuto
namespace Go.Proofs.YtecfjjpdlohmnaaDoor.SetBackW
open Go.RowKit Go.Lib SetP SetO SetNum SetIn SetWith SetT SetW2 SetF SetG SetC SetSame BitCheck BitHas BitOnes BitTz BitList BitSame BitClone BitOf BitOr BitOps BitHelp BitCount SetBackP

theorem nil_value {w : World} {v : Value} (h : SetAt w v []) : ∃ ao cap, v = .slice ao 0 cap := by
  obtain ⟨ao, cap, rfl, _⟩ := h
  exact ⟨ao, cap, rfl⟩
theorem num_len {s : List Wd} (h : MayW s) : (numbers s).length ≤ 1048576 := by
  have := may_length h
  have := numbers_length s
  omega

set_option maxRecDepth 100000 in
set_option maxHeartbeats 4000000 in
theorem walk_bad (w : World) (os oss : Option Addr) (caps capl : Nat) (s : List Wd) (hs : SetAt w (.slice os s.length caps) s) (hok : ∀ x ∈ s, WdOk x) (l : List Int) (hl : IntsAt w (.slice oss l.length capl) l) (h10 : ¬ 10 < s.length) (h200 : ¬ 200 < l.length) (ht : Tab w) (ho : okL l = false) :
    Calls Tryd.prog 6 #[.slice os s.length caps, .slice oss l.length capl] w fun e w' => e = .returned (.bool true) ∧ Below w.heap.size w w' := by
  have E1 := hid (show ofS l = [] from if_neg (by rw [ho]; decide))
  have E2 := hid (show ofE l = 2 from if_neg (by rw [ho]; decide))
  clear ho
  have HS0 : Hid (∀ w', Below w.heap.size w w' → SetAt w' (.slice os s.length caps) s) := fun w' h => hs.below h
  have HL0 : Hid (∀ w', Below w.heap.size w w' → IntsAt w' (.slice oss l.length capl) l) := fun w' h => hl.below h
  have HOK := hid hok
  have HT := hid ht
  have HAL := hid (alive_calls w ht)
  clear hs hok hl ht
  have hnot : ∀ (x : Bool) (w : World), (Op.unary .not (.bool x)).run Tryd.prog w = .ok (.bool (!x)) w := fun _ _ => rfl
  go_enter Tryd.func6, Tryd.ntmps6
  go_wp2_with fail
  refine HAL.out.mono ?_
  rintro e w1 ⟨rfl, b1⟩
  have C1 := hid b1
  clear b1
  go_wp2_with fail
  refine (BitList.list_calls _ s w1 (HS0.out _ C1.out) HOK.out (HT.out.on C1.out)).mono ?_
  rintro e w2 ⟨vk, nk, rfl, own, b2⟩
  have C2 := hid (C1.out.trans (b2.mono C1.out.size))
  have IK := hid own
  clear own b2 C1
  go_upto_region 5 with fail
  go_cut [45] (fun c wc => c = .bool false ∧ Below w.heap.size w wc)
  case first =>
    by_cases hm : MayW s
    · have hd : (chk s == 0) = true := by rw [chk_yes hm]; rfl
      have hls : listS s = numbers s := if_pos hm
      have IK2 := hid IK.out
      rw [hls] at IK2
      have IK3 := hid (intsAt_of_owns IK2.out (by have := num_len hm; omega))
      have HE := hid (of_list hm)
      have HM := hid hm
      clear hm hls IK2
      go_wp2_with fail
      refine (of_help _ (numbers s) w2 IK3.out).mono ?_
      rintro e w3 ⟨vo, no, rfl, own, b3⟩
      have C3 := hid (C2.out.trans (b3.mono C2.out.size))
      have SO := hid (set_own own (of_may _))
      clear own b3
      go_wp2_with fail
      refine (BitSame.same_calls _ _ (ofS (numbers s)) s w3 SO.out (HS0.out _ C3.out)).mono ?_
      rw [decide_eq_true HE.out]
      rintro e w4 ⟨rfl, b4⟩
      have C4 := hid (C3.out.trans (b4.mono C3.out.size))
      clear b4
      go_wp2_with fail
      go_meet
      case rel => exact ⟨rfl, C4.out⟩
    · have hd : (chk s == 0) = false := by rw [chk_no hm]; rfl
      clear hm
      go_wp2_with fail
      go_meet
      case rel => exact ⟨rfl, C2.out⟩
  case rest =>
  obtain ⟨rfl, hbc⟩ := hcut
  have C5 := hid hbc
  clear hbc C2 IK
  go_wp2_with fail
  refine (BitOf.of_calls _ l wc (HL0.out _ C5.out)).mono ?_
  rw [E1.out, E2.out]
  rintro e w6 ⟨vt, nt, rfl, own, b6⟩
  have C6 := hid (C5.out.trans (b6.mono C5.out.size))
  obtain ⟨at', capt, rfl⟩ := nil_value (setAt_of_owns own (by simp))
  clear own b6
  go_wp2
  go_ret
  exact ⟨rfl, C6.out⟩

set_option maxRecDepth 100000 in
set_option maxHeartbeats 8000000 in
theorem walk_good (w : World) (os oss : Option Addr) (caps capl : Nat) (s : List Wd) (hs : SetAt w (.slice os s.length caps) s) (hok : ∀ x ∈ s, WdOk x) (l : List Int) (hl : IntsAt w (.slice oss l.length capl) l) (h10 : ¬ 10 < s.length) (h200 : ¬ 200 < l.length) (ht : Tab w) (ho : okL l = true) :
    Calls Tryd.prog 6 #[.slice os s.length caps, .slice oss l.length capl] w fun e w' => e = .returned (.bool true) ∧ Below w.heap.size w w' := by
  have E2 := hid (show ofE l = 0 from if_pos ho)
  have EM := hid (fun n => of_mem (n := n) ho)
  have EH := hid (fun n => of_has (n := n) ho)
  have MT := hid (of_may l)
  have RISE := hid (rise_numbers (of_may l))
  have MLEN := hid (num_len (of_may l))
  clear ho
  have HS0 : Hid (∀ w', Below w.heap.size w w' → SetAt w' (.slice os s.length caps) s) := fun w' h => hs.below h
  have HL0 : Hid (∀ w', Below w.heap.size w w' → IntsAt w' (.slice oss l.length capl) l) := fun w' h => hl.below h
  have HOK := hid hok
  have HT := hid ht
  have HAL := hid (alive_calls w ht)
  clear hs hok hl ht
  have hnot : ∀ (x : Bool) (w : World), (Op.unary .not (.bool x)).run Tryd.prog w = .ok (.bool (!x)) w := fun _ _ => rfl
  go_enter Tryd.func6, Tryd.ntmps6
  go_wp2_with fail
  refine HAL.out.mono ?_
  rintro e w1 ⟨rfl, b1⟩
  have C1 := hid b1
  clear b1
  go_wp2_with fail
  refine (BitList.list_calls _ s w1 (HS0.out _ C1.out) HOK.out (HT.out.on C1.out)).mono ?_
  rintro e w2 ⟨vk, nk, rfl, own, b2⟩
  have C2 := hid (C1.out.trans (b2.mono C1.out.size))
  have IK := hid own
  clear own b2 C1
  go_upto_region 5 with fail
  go_cut [45] (fun c wc => c = .bool false ∧ Below w.heap.size w wc)
  case first =>
    by_cases hm : MayW s
    · have hd : (chk s == 0) = true := by rw [chk_yes hm]; rfl
      have hls : listS s = numbers s := if_pos hm
      have IK2 := hid IK.out
      rw [hls] at IK2
      have IK3 := hid (intsAt_of_owns IK2.out (by have := num_len hm; omega))
      have HE := hid (of_list hm)
      have HM := hid hm
      clear hm hls IK2
      go_wp2_with fail
      refine (of_help _ (numbers s) w2 IK3.out).mono ?_
      rintro e w3 ⟨vo, no, rfl, own, b3⟩
      have C3 := hid (C2.out.trans (b3.mono C2.out.size))
      have SO := hid (set_own own (of_may _))
      clear own b3
      go_wp2_with fail
      refine (BitSame.same_calls _ _ (ofS (numbers s)) s w3 SO.out (HS0.out _ C3.out)).mono ?_
      rw [decide_eq_true HE.out]
      rintro e w4 ⟨rfl, b4⟩
      have C4 := hid (C3.out.trans (b4.mono C3.out.size))
      clear b4
      go_wp2_with fail
      go_meet
      case rel => exact ⟨rfl, C4.out⟩
    · have hd : (chk s == 0) = false := by rw [chk_no hm]; rfl
      clear hm
      go_wp2_with fail
      go_meet
      case rel => exact ⟨rfl, C2.out⟩
  case rest =>
  obtain ⟨rfl, hbc⟩ := hcut
  have C5 := hid hbc
  clear hbc C2 IK
  go_wp2_with fail
  refine (BitOf.of_calls _ l wc (HL0.out _ C5.out)).mono ?_
  rw [E2.out]
  generalize ofS l = t at *
  rintro e w6 ⟨vt, nt, rfl, own, b6⟩
  have C6 := hid (C5.out.trans (b6.mono C5.out.size))
  have ST6 := hid (set_own own MT.out)
  clear own b6 C5
  go_wp2_with fail
  refine (BitList.list_calls _ t w6 ST6.out (wok MT.out.win) (HT.out.on C6.out)).mono ?_
  rw [chk_yes MT.out, show listS t = numbers t from if_pos MT.out]
  rintro e w7 ⟨vm, nm, rfl, own, b7⟩
  have C7 := hid (C6.out.trans (b7.mono C6.out.size))
  have ST7 := hid (ST6.out.below b7)
  have im := intsAt_of_owns own (by have := MLEN.out; omega)
  clear own b7 C6 ST6
  generalize hmm : numbers t = m at *
  have HMM := hid hmm
  clear hmm
  obtain ⟨om, capm, rfl, hml, hmc, _⟩ := im
  obtain ⟨_, _, hle, _, hlc, _⟩ := HL0.out _ C7.out
  simp at hle
  obtain ⟨rfl, rfl⟩ := hle
  have HMC := hid hmc
  have HLC := hid hlc
  clear hmc hlc
  go_wp2_with fail
  go_loopg [12] m.length (fun g i wr => ∃ k : Nat, k + g = m.length ∧ i = .int .i64 k ∧ Below w7.heap.size w7 wr)
  case atStart => exact ⟨0, by omega, rfl, Below.refl _ _⟩
  case round =>
    obtain ⟨k, hk, rfl, hbe⟩ := hrel
    have HK := hid hk
    clear hk
    by_cases hlt : k < m.length
    · obtain ⟨bm, offm, rfl, hbm, hcm⟩ := HMC.out (by omega)
      have cm := hcm k hlt
      have cp : 0 < k → w7.cell? ⟨bm, offm + (k - 1), none⟩ = some (.int .i64 m[k - 1]) := fun h => hcm (k - 1) (by omega)
      have HIN := hid (EM.out m[k] (List.getElem_mem hlt))
      have HRI := hid (fun h0 => rise_at RISE.out h0 hlt)
      clear hcm
      generalize m[k] = x at *
      have HCM := hid cm
      have HCP := hid cp
      clear cm cp
      obtain ⟨wo, hwo⟩ : ∃ wo : World, wo = wr := ⟨wr, rfl⟩
      subst hwo
      have HBO := hid hbe
      clear hbe
      go_wp2_with fail
      go_loopg [13, 14] l.length (fun g b i wr => ∃ j : Nat, j + g = l.length ∧ i = .int .i64 j ∧ b = .bool (decide (x ∈ l.take j)) ∧ Below w7.heap.size w7 wr)
      case atStart => exact ⟨0, by omega, rfl, by simp, HBO.out⟩
      case round =>
        obtain ⟨j, hj, rfl, rfl, hbe⟩ := hrel
        have HJ := hid hj
        clear hj
        by_cases hlj : j < l.length
        · obtain ⟨bl, offl, rfl, hbl, hcl⟩ := HLC.out (by omega)
          have cl := (hbe.cell (p := ⟨bl, _, none⟩) hbl).trans (hcl j hlj)
          have cm := (hbe.cell (p := ⟨bm, _, none⟩) hbm).trans HCM.out
          have HTS := hid (mem_take_succ hlj x)
          clear hcl
          generalize l[j] = y at *
          by_cases hin : decide (x ∈ l.take j) = true
          · rw [hin]
            rw [hin, Bool.true_or] at HTS
            clear hin
            go_wp2_with fail
            go_quiet (fail)
            go_wp2
            go_roundg (gk - 1)
            case measure => have := HJ.out; omega
            case rel => exact ⟨j + 1, by have := HJ.out; omega, by go_num, by rw [HTS.out], below_drewN hbe _⟩
          · have hin' : decide (x ∈ l.take j) = false := by simpa using hin
            rw [hin']
            rw [hin', Bool.false_or] at HTS
            clear hin hin'
            have i0 : (0 : Int) ≤ (k : Int) := by omega
            have i1 : (k : Int) < (m.length : Int) := by omega
            have i2 : (0 : Int) ≤ (j : Int) := by omega
            have i3 : (j : Int) < (l.length : Int) := by omega
            go_wp2_with fail
            go_quiet (fail)
            go_wp2
            go_roundg (gk - 1)
            case measure => have := HJ.out; omega
            case rel => exact ⟨j + 1, by have := HJ.out; omega, by go_num, by rw [HTS.out], below_drewN hbe _⟩
        · obtain rfl : j = l.length := by have := HJ.out; omega
          have hin : decide (x ∈ l.take l.length) = true := by rw [List.take_length]; exact decide_eq_true HIN.out
          rw [hin]
          clear hin
          by_cases hk0 : 0 < k
          · have c0 := (hbe.cell (p := ⟨bm, _, none⟩) hbm).trans HCM.out
            have c1 := (hbe.cell (p := ⟨bm, _, none⟩) hbm).trans (HCP.out hk0)
            have hr := HRI.out hk0
            have hdk : decide ((0 : Int) < (k : Int)) = true := by simp; omega
            have hcast : ((k : Int) - 1) = ((k - 1 : Nat) : Int) := by omega
            have hw1 : IntKind.i64.wrap ((k : Int) - 1) = ((k - 1 : Nat) : Int) := by rw [IntWalk.i64_in _ (by omega)]; omega
            have i0 : (0 : Int) ≤ ((k - 1 : Nat) : Int) := by omega
            have i1 : ((k - 1 : Nat) : Int) < (m.length : Int) := by omega
            have i2 : (0 : Int) ≤ (k : Int) := by omega
            have i3 : (k : Int) < (m.length : Int) := by omega
            generalize m[k - 1] = z at *
            have hdr : decide (x ≤ z) = false := by simp; omega
            have HR := hid hr
            clear hr
            go_wp2_with fail
            go_quiet (fail)
            go_wp2
            go_roundg (m.length - (k + 1))
            case measure => have := HK.out; omega
            case rel => exact ⟨k + 1, by omega, by go_num, below_drewN hbe _⟩
          · have hdk : decide ((0 : Int) < (k : Int)) = false := by simp; omega
            go_wp2_with fail
            go_quiet (fail)
            go_wp2
            go_roundg (m.length - (k + 1))
            case measure => have := HK.out; omega
            case rel => exact ⟨k + 1, by omega, by go_num, below_drewN hbe _⟩
    · obtain ⟨wo, hwo⟩ : ∃ wo : World, wo = wr := ⟨wr, rfl⟩
      subst hwo
      have HBO := hid hbe
      clear hbe
      go_wp2_with fail
      go_loopg [15] l.length (fun g i wr => ∃ k : Nat, k + g = l.length ∧ i = .int .i64 k ∧ Below w7.heap.size w7 wr)
      case atStart => exact ⟨0, by omega, rfl, HBO.out⟩
      case round =>
        obtain ⟨j, hj, rfl, hbe⟩ := hrel
        have HJ := hid hj
        clear hj
        by_cases hlj : j < l.length
        · obtain ⟨bl, offl, rfl, hbl, hcl⟩ := HLC.out (by omega)
          have cl := (hbe.cell (p := ⟨bl, _, none⟩) hbl).trans (hcl j hlj)
          have HHAS := hid (EH.out l[j] (List.getElem_mem hlj))
          clear hcl
          generalize l[j] = y at *
          have HC := hid (BitHas.has_calls vt t y wr (ST7.out.below hbe) (wok MT.out.win))
          rw [HHAS.out.1, HHAS.out.2] at HC
          go_wp2_with fail
          refine HC.out.mono ?_
          rintro e w9 ⟨rfl, b9⟩
          have hb9 := hbe.trans (b9.mono hbe.size)
          clear b9 hbe cl HC
          go_wp2
          go_roundg (gk - 1)
          case measure => have := HJ.out; omega
          case rel => exact ⟨j + 1, by have := HJ.out; omega, by go_num, hb9⟩
        · have HC := hid (BitCheck.check_calls vt t wr (ST7.out.below hbe) (wok MT.out.win))
          rw [chk_yes MT.out] at HC
          go_wp2_with fail
          refine HC.out.mono ?_
          rintro e w9 ⟨rfl, b9⟩
          have hb9 := C7.out.trans ((hbe.trans (b9.mono hbe.size)).mono C7.out.size)
          clear b9 hbe HC
          go_wp2
          go_ret
          exact ⟨rfl, hb9⟩

set_option maxHeartbeats 1000000 in
theorem walk (w : World) (va : Value) (s : List Wd) (hs : SetAt w va s) (hok : ∀ x ∈ s, WdOk x) (vl : Value) (l : List Int) (hl : IntsAt w vl l) (_hokl : ∀ n ∈ l, -9223372036854775808 ≤ n ∧ n ≤ 9223372036854775807) (ht : Tab w) :
    Calls Tryd.prog 6 #[va, vl] w fun e w' => e = .returned (.bool true) ∧ Below w.heap.size w w' := by
  obtain ⟨os, caps, rfl⟩ : ∃ ao cap, va = .slice ao s.length cap := by obtain ⟨ao, cap, rfl, _⟩ := hs; exact ⟨ao, cap, rfl⟩
  obtain ⟨oss, capl, rfl⟩ : ∃ ao cap, vl = .slice ao l.length cap := by obtain ⟨ao, cap, rfl, _⟩ := hl; exact ⟨ao, cap, rfl⟩
  by_cases h0 : 10 < s.length
  · have HAL := hid (alive_calls w ht)
    clear hs hok hl ht
    go_enter Tryd.func6, Tryd.ntmps6
    go_wp2_with fail
    refine HAL.out.mono ?_
    rintro e w1 ⟨rfl, b1⟩
    go_wp2
    go_ret
    exact ⟨rfl, b1⟩
  by_cases h1 : 200 < l.length
  · have HAL := hid (alive_calls w ht)
    clear hs hok hl ht
    go_enter Tryd.func6, Tryd.ntmps6
    go_wp2_with fail
    refine HAL.out.mono ?_
    rintro e w1 ⟨rfl, b1⟩
    go_wp2
    go_ret
    exact ⟨rfl, b1⟩
  cases ho : okL l
  · exact walk_bad w os oss caps capl s hs hok l hl h0 h1 ht ho
  · exact walk_good w os oss caps capl s hs hok l hl h0 h1 ht ho
end Go.Proofs.YtecfjjpdlohmnaaDoor.SetBackW
