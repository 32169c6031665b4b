/- Walk over fescuelaw05.LexParts. -/
import Derived.Test.YtfnibkepkomcdaaDoorLxLA
import Derived.Test.YtfnibkepkomcdaaDoorNumW
namespace Go.Proofs.YtfnibkepkomcdaaDoor.LxPW
open Go.RowKit Go.Lib LxM LxP LxK LxJ LxS LxY LxLA

theorem lines_one {w : World} {r : List Rw} (h : ∀ x ∈ r, StrsAt w x.2 x.1) : ∀ u ∈ r.map Prod.snd, u.oneCell' = true := by
  intro u hu
  obtain ⟨x, hx, rfl⟩ := List.mem_map.1 hu
  obtain ⟨_, _, e, _⟩ := (h x hx).slice
  rw [e]; rfl
def keepB (c : UInt8) : Bool := decide (c.toNat ≠ 10)
theorem noise_next {l : List UInt8} {i : Nat} (h : i < l.length) : (l.take (i + 1)).filter keepB = if l[i].toNat = 10 then (l.take i).filter keepB else (l.take i).filter keepB ++ [l[i]] := by
  rw [List.take_succ_eq_append_getElem h, List.filter_append]
  by_cases e : l[i].toNat = 10
  · rw [if_pos e]; simp [keepB, e]
  · rw [if_neg e]; simp [keepB, e]
theorem noise_ok {l : List UInt8} : ∀ c ∈ l.filter keepB, c.toNat ≠ 10 := fun c hc => by
  have := (List.mem_filter.1 hc).2
  simpa [keepB] using this
/-- what the three texts' lines are -/
theorem three {a b c t : List UInt8} {X : List (List ByteArray)} (ha : lnE a = 0) (hb : lnE b = 0) (hX : X = mkL (lnT a) ++ mkL (lnT b)) (hl : t.length ≤ 16384)
    (ht : t = a ++ (10 : UInt8) :: b ∨ t = a ++ (35 : UInt8) :: c.filter keepB ++ (10 : UInt8) :: b ∨ t = (32 : UInt8) :: 9 :: a ++ [13, 10, 10, 32, 10] ++ b ++ [32]) :
    decide (lnE (un (mk t)) = 0 ∧ mkL (lnT (un (mk t))) = X) = true := by
  rw [un_mk]
  have key : lnE t = 0 ∧ lnT t = lnT a ++ lnT b := by
    rcases ht with rfl | rfl | rfl
    · exact both ha hb (g := []) (by rw [all_feed]; simp) (by simp) hl
    · exact both ha hb (g := []) (by rw [all_noise _ _ _ noise_ok]; simp) (by simp) hl
    · exact both ha hb (g := [[], []]) (by rw [all_blanks]) (by simp) hl
  refine decide_eq_true ⟨key.1, ?_⟩
  rw [key.2, hX]
  show List.map mkW (lnT a ++ lnT b) = _
  rw [List.map_append]
theorem add_mk (x y : List UInt8) (hx : x.length ≤ 100000) (hy : y.length ≤ 100000) (w : World) : (Op.stringOp .add (mk x) (mk y)).run Tryd.prog w = .ok (.string (mk (x ++ y))) w :=
  run_string_add_lists w x y (by omega) (by omega)
theorem conv_one (w : World) (c : UInt8) : (convert 26 9 (.slice (some ⟨w.heap.size, 0, none⟩) 1 1)).run Tryd.prog (w.alloc (.cells #[.int .u8 (c.toNat : Int)] 5)) = .ok (.string (mk [c])) (w.alloc (.cells #[.int .u8 (c.toNat : Int)] 5)) := by
  have := NumW.conv1 w (c.toNat : Int) (by omega) (by have := u8_le c; omega)
  simpa [mk] using this

set_option maxRecDepth 100000 in
set_option maxHeartbeats 4000000 in
theorem walk (a : ByteArray) (w0 : a.size ≤ maxLen) (b : ByteArray) (w1 : b.size ≤ maxLen) (c : ByteArray) (w2 : c.size ≤ maxLen) (W : World) (ht : Tab W) :
    Calls Tryd.prog 7 #[.string a, .string b, .string c] W fun e W' => e = .returned (.bool true) ∧ Below W.heap.size W W' := by
  have hsa : a.size ≤ 9223372036854775807 := by unfold maxLen at w0; omega
  have hsb : b.size ≤ 9223372036854775807 := by unfold maxLen at w1; omega
  have hsc : c.size ≤ 9223372036854775807 := by unfold maxLen at w2; omega
  have HAL := hid (alive_calls W ht)
  have HT := hid ht
  clear w0 w1 w2 ht
  obtain ⟨la, rfl⟩ : ∃ la, a = mk la := ⟨un a, (mk_un a).symm⟩
  obtain ⟨lb, rfl⟩ : ∃ lb, b = mk lb := ⟨un b, (mk_un b).symm⟩
  generalize ha0 : mk la = a at *
  generalize hb0 : mk lb = b at *
  by_cases hbig : 700 < a.size ∨ 700 < b.size ∨ 700 < c.size
  · clear HT
    go_enter Tryd.func7, Tryd.ntmps7
    go_wp2_with fail
    refine HAL.out.mono ?_
    rintro e w1 ⟨rfl, hb1⟩
    by_cases h1 : 700 < a.size
    · go_wp2
      go_ret
      exact ⟨rfl, hb1⟩
    by_cases h2 : 700 < b.size
    · go_wp2
      go_ret
      exact ⟨rfl, hb1⟩
    · have h3 : 700 < c.size := by omega
      go_wp2
      go_ret
      exact ⟨rfl, hb1⟩
  · have h1 : a.size ≤ 700 := by omega
    have h2 : b.size ≤ 700 := by omega
    have h3 : c.size ≤ 700 := by omega
    have hla : la.length ≤ 700 := by rw [← mk_size, ha0]; exact h1
    have hlb : lb.length ≤ 700 := by rw [← mk_size, hb0]; exact h2
    have hua : un a = la := by rw [← ha0, un_mk]
    have hub : un b = lb := by rw [← hb0, un_mk]
    have HA0 := hid ha0
    have HB0 := hid hb0
    clear hbig hsa hsb hsc ha0 hb0
    have HLA := hid (fun wx (hb : Below W.heap.size W wx) => (LxL.lines_calls a wx (HT.out.on hb)).mono fun e w' h => lna h)
    have HLB := hid (fun wx (hb : Below W.heap.size W wx) => (LxL.lines_calls b wx (HT.out.on hb)).mono fun e w' h => lna h)
    unfold LnA at HLA HLB
    rw [hua] at HLA
    rw [hub] at HLB
    clear hua hub
    go_enter Tryd.func7, Tryd.ntmps7
    go_wp2_with fail
    refine HAL.out.mono ?_
    rintro e w1 ⟨rfl, hb1⟩
    have HL1 := hid (HLA.out w1 hb1)
    clear HLA HAL
    go_wp2_with fail
    refine HL1.out.mono ?_
    rintro e w2 ⟨u, rfl, hu, hb2⟩
    have hbe2 := hb1.trans (hb2.mono hb1.size)
    have HU := hid hu
    have HL2 := hid (HLB.out w2 hbe2)
    clear HL1 HLB hu hb2 hb1
    go_wp2_with fail
    refine HL2.out.mono ?_
    rintro e w3 ⟨v, rfl, hv, hb3⟩
    have hbe3 := hbe2.trans (hb3.mono hbe2.size)
    have HUB := hid (HU.out.below hb3)
    have HV := hid hv
    clear HL2 hv hb3 hbe2 HU
    rcases lnE_cases la with ha | ha
    · rcases lnE_cases lb with hb | hb
      · have HTH := hid (fun (X : List (List ByteArray)) (t : List UInt8) hX hl h => three (c := un c) (t := t) (X := X) ha hb hX hl h)
        rw [ha, hb]
        obtain ⟨r1, hr1, hL1, hs1⟩ := HUB.out
        obtain ⟨r2, hr2, hL2, hs2⟩ := HV.out
        rw [← hr1, ← hr2] at HTH
        have hn1 : r1.length ≤ 16385 := by
          have := congrArg List.length hr1
          have h4 := (lnT_len la).1
          simp at this; omega
        have hn2 : r2.length ≤ 16385 := by
          have := congrArg List.length hr2
          have h4 := (lnT_len lb).1
          simp at this; omega
        clear ha hb hr1 hr2 HUB HV
        obtain ⟨u1, u2, rfl, _⟩ := hL1.slice
        obtain ⟨v1, v2, rfl, _⟩ := hL2.slice
        have HO1 := hid (lines_one hs1)
        have HO2 := hid (lines_one hs2)
        have HS1 := hid hs1
        have HS2 := hid hs2
        have hO0 : Hid ((w3.alloc (.cells #[] 29)).ownsRow w3.heap.size 29 1 (.slice (some ⟨w3.heap.size, 0, none⟩) 0 0) 0 []) := ownsRow_lit w3 [] 29 0 rfl (by decide)
        have HBA := hid (alloc_below w3 (.cells #[] 29))
        have HL1 := hid (hL1.below HBA.out)
        have HL2 := hid hL2
        have hsz := HBA.out.size
        clear hL1 hL2 hs1 hs2
        have hlen1 : (r1.map Prod.snd).length = r1.length := by simp
        have hlen2 : (r2.map Prod.snd).length = r2.length := by simp
        have HMA : Hid ((r1 ++ r2).map Prod.snd = r1.map Prod.snd ++ r2.map Prod.snd) := by show _ = _; simp
        have HMF : Hid ((r1 ++ r2).map Prod.fst = r1.map Prod.fst ++ r2.map Prod.fst) := by show _ = _; simp
        generalize r1.map Prod.snd = x1 at *
        generalize r2.map Prod.snd = x2 at *
        rw [hlen1] at HL1 ⊢
        rw [hlen2] at HL2 ⊢
        go_wp2_with (at_builtin; refine wpList_append_list rfl (.tmp 51) (.tmp 52) elemL rfl w3.heap.size (.slice (some ⟨w3.heap.size, 0, none⟩) 0 0) rfl 0 [] hO0.out (by omega) (.slice u1 r1.length u2) x1 rfl HL1.out HO1.out (by omega) hsz ?_)
        intro p1 w4 hown4 hgr4
        have HB4 := hid (own_grown HBA.out hO0.out hgr4 hsz)
        have HO4 := hid hown4
        have HL4 := hid (HL2.out.below HB4.out)
        have hsz4 := HB4.out.size
        clear hown4 hgr4 hO0 HBA HL1 HL2
        go_wp2_with (at_builtin; refine wpList_append_list rfl (.tmp 53) (.tmp 54) elemL rfl w3.heap.size p1 rfl r1.length x1 HO4.out (by omega) (.slice v1 r2.length v2) x2 rfl HL4.out HO2.out (by omega) hsz4 ?_)
        intro p2 w5 hown5 hgr5
        have HB5 := hid (own_grown HB4.out HO4.out hgr5 hsz4)
        have HBO : Hid (LinesAt w5 p2 (r1.map Prod.fst ++ r2.map Prod.fst)) := by
          refine ⟨r1 ++ r2, HMF.out, ?_, fun x hx => ?_⟩
          · rw [HMA.out]
            refine list_of_owns hown5 ?_
            rw [List.length_append, hlen1, hlen2]; omega
          · rcases List.mem_append.1 hx with hx | hx
            · exact (HS1.out x hx).below HB5.out
            · exact (HS2.out x hx).below HB5.out
        have hbe5 := hbe3.trans (HB5.out.mono hbe3.size)
        have HBE5 := hid hbe5
        obtain ⟨pa, pc, rfl⟩ := own_slice hown5
        clear hown5 hgr5 HO4 HB4 HL4 HO1 HO2 HS1 HS2 HMA HMF hlen1 hlen2 hsz hsz4 HB5 hbe3
        generalize r1.map Prod.fst ++ r2.map Prod.fst = X at *
        generalize r1.length + r2.length = pn at *
        have HTH2 := hid (fun t hl h => HTH.out X t rfl hl h)
        clear HTH hn1 hn2
        go_wp2
        go_loopg [13, 14] c.size (fun gk nv iv wr => ∃ i : Nat, i + gk = c.size ∧ iv = .int .i64 i ∧ nv = .string (mk ((35 : UInt8) :: ((un c).take i).filter keepB)) ∧ Below w5.heap.size w5 wr)
        case atStart => exact ⟨0, by omega, rfl, rfl, Below.refl _ _⟩
        case round =>
          obtain ⟨i, hi, rfl, rfl, hbx⟩ := hrel
          have HK := hid hi
          have hfl : (((un c).take i).filter keepB).length ≤ 700 := by
            have h4 := List.length_filter_le keepB ((un c).take i)
            rw [List.length_take, un_len] at h4
            omega
          by_cases hlt : i < c.size
          · obtain ⟨hlt2, hce⟩ := at_byte hlt
            have HN := hid (noise_next hlt2)
            rw [hce] at HN
            have h255 := u8_le c[i]
            have hcv := fun wx => conv_one wx c[i]
            generalize ((un c).take i).filter keepB = F at *
            clear hi hce
            by_cases h10 : c[i].toNat = 10
            · have HN2 : Hid (((un c).take (i + 1)).filter keepB = F) := by show _ = _; rw [HN.out, if_pos h10]
              have hne : ((c[i].toNat : Int) != 10) = false := by rw [h10]; rfl
              clear HN hcv h10
              generalize hz : mk ((35 : UInt8) :: F) = z at *
              have HZ := hid hz
              clear hz
              go_wp2
              go_roundg (gk - 1)
              case measure => have := HK.out; omega
              case rel => exact ⟨i + 1, by have := HK.out; omega, by go_num, by rw [HN2.out, HZ.out], hbx⟩
            · have HN2 : Hid (((un c).take (i + 1)).filter keepB = F ++ [c[i]]) := by show _ = _; rw [HN.out, if_neg h10]
              have hne : ((c[i].toNat : Int) != 10) = true := by simp; omega
              have hadd := fun wx => add_mk ((35 : UInt8) :: F) [c[i]] (by simp; omega) (by simp) wx
              have HZ2 : Hid (mk ((35 : UInt8) :: F ++ [c[i]]) = mk ((35 : UInt8) :: (F ++ [c[i]]))) := rfl
              clear HN h10
              generalize mk ((35 : UInt8) :: F ++ [c[i]]) = z2 at *
              generalize mk ((35 : UInt8) :: F) = z at *
              generalize mk [c[i]] = z1 at *
              have hb2 := hid (hbx.alloc hbx.size (.cells #[.int .u8 (c[i].toNat : Int)] 5))
              go_wp2
              go_roundg (gk - 1)
              case measure => have := HK.out; omega
              case rel => exact ⟨i + 1, by have := HK.out; omega, by go_num, by rw [HN2.out, ← HZ2.out], hb2.out⟩
          · obtain rfl : i = c.size := by omega
            have hct : (un c).take c.size = un c := List.take_of_length_le (by rw [un_len]; exact Nat.le_refl _)
            rw [hct] at hfl ⊢
            generalize (un c).filter keepB = F at *
            have hfl2 : F.length ≤ 700 := hfl
            clear hi hlt hct hfl
            have hA := HA0.out
            have hB := HB0.out
            subst hA
            subst hB
            have k1 : ∀ wx, (Op.stringOp .add (mk la) ⟨#[10]⟩).run Tryd.prog wx = .ok (.string (mk (la ++ [10]))) wx := fun wx => add_mk la [10] (by omega) (by simp) wx
            have k2 : ∀ wx, (Op.stringOp .add (mk (la ++ [10])) (mk lb)).run Tryd.prog wx = .ok (.string (mk (la ++ [10] ++ lb))) wx := fun wx => add_mk (la ++ [10]) lb (by simp; omega) (by omega) wx
            have k3 : ∀ wx, (Op.stringOp .add (mk la) (mk ((35 : UInt8) :: F))).run Tryd.prog wx = .ok (.string (mk (la ++ (35 : UInt8) :: F))) wx := fun wx => add_mk la ((35 : UInt8) :: F) (by omega) (by simp; omega) wx
            have k4 : ∀ wx, (Op.stringOp .add (mk (la ++ (35 : UInt8) :: F)) ⟨#[10]⟩).run Tryd.prog wx = .ok (.string (mk (la ++ (35 : UInt8) :: F ++ [10]))) wx := fun wx => add_mk (la ++ (35 : UInt8) :: F) [10] (by simp; omega) (by simp) wx
            have k5 : ∀ wx, (Op.stringOp .add (mk (la ++ (35 : UInt8) :: F ++ [10])) (mk lb)).run Tryd.prog wx = .ok (.string (mk (la ++ (35 : UInt8) :: F ++ [10] ++ lb))) wx := fun wx => add_mk (la ++ (35 : UInt8) :: F ++ [10]) lb (by simp; omega) (by omega) wx
            have k6 : ∀ wx, (Op.stringOp .add ⟨#[32, 9]⟩ (mk la)).run Tryd.prog wx = .ok (.string (mk ([32, 9] ++ la))) wx := fun wx => add_mk [32, 9] la (by simp) (by omega) wx
            have k7 : ∀ wx, (Op.stringOp .add (mk ([32, 9] ++ la)) ⟨#[13, 10, 10, 32, 10]⟩).run Tryd.prog wx = .ok (.string (mk ([32, 9] ++ la ++ [13, 10, 10, 32, 10]))) wx := fun wx => add_mk ([32, 9] ++ la) [13, 10, 10, 32, 10] (by simp; omega) (by simp) wx
            have k8 : ∀ wx, (Op.stringOp .add (mk ([32, 9] ++ la ++ [13, 10, 10, 32, 10])) (mk lb)).run Tryd.prog wx = .ok (.string (mk ([32, 9] ++ la ++ [13, 10, 10, 32, 10] ++ lb))) wx := fun wx => add_mk ([32, 9] ++ la ++ [13, 10, 10, 32, 10]) lb (by simp; omega) (by omega) wx
            have k9 : ∀ wx, (Op.stringOp .add (mk ([32, 9] ++ la ++ [13, 10, 10, 32, 10] ++ lb)) ⟨#[32]⟩).run Tryd.prog wx = .ok (.string (mk ([32, 9] ++ la ++ [13, 10, 10, 32, 10] ++ lb ++ [32]))) wx := fun wx => add_mk ([32, 9] ++ la ++ [13, 10, 10, 32, 10] ++ lb) [32] (by simp; omega) (by simp) wx
            have HR := hid (fun (t : List UInt8) (wx : World) (hb : Below wr.heap.size wr wx) hl ho => by
              have := are_calls (mk t) _ X wx (HBO.out.below (hbx.trans (hb.mono hbx.size))) (HT.out.on (HBE5.out.trans ((hbx.trans (hb.mono hbx.size)).mono HBE5.out.size)))
              rw [HTH2.out t hl ho] at this
              exact this)
            have HR1 := hid (fun wx hb => HR.out (la ++ [10] ++ lb) wx hb (by simp; omega) (.inl (by simp)))
            have HR2 := hid (fun wx hb => HR.out (la ++ (35 : UInt8) :: F ++ [10] ++ lb) wx hb (by simp; omega) (.inr (.inl (by simp))))
            have HR3 := hid (fun wx hb => HR.out ([32, 9] ++ la ++ [13, 10, 10, 32, 10] ++ lb ++ [32]) wx hb (by simp; omega) (.inr (.inr (by simp))))
            have hbf := HBE5.out.trans (hbx.mono HBE5.out.size)
            clear HR HTH2 HBO hfl2 hla hlb
            generalize mk (la ++ [10] ++ lb) = z0 at *
            generalize mk (la ++ [10]) = z1 at *
            generalize mk (la ++ (35 : UInt8) :: F ++ [10] ++ lb) = z2 at *
            generalize mk (la ++ (35 : UInt8) :: F ++ [10]) = z3 at *
            generalize mk (la ++ (35 : UInt8) :: F) = z4 at *
            generalize mk ([32, 9] ++ la ++ [13, 10, 10, 32, 10] ++ lb ++ [32]) = z5 at *
            generalize mk ([32, 9] ++ la ++ [13, 10, 10, 32, 10] ++ lb) = z6 at *
            generalize mk ([32, 9] ++ la ++ [13, 10, 10, 32, 10]) = z7 at *
            generalize mk ([32, 9] ++ la) = z8 at *
            generalize mk ((35 : UInt8) :: F) = z9 at *
            generalize mk (la) = z10 at *
            generalize mk (lb) = z11 at *
            have HW := hid hbf
            have HR1a := hid (HR1.out wr (Below.refl _ _))
            clear hbx hbf HR1
            go_wp2_with fail
            refine HR1a.out.mono ?_
            rintro e x1 ⟨rfl, b1⟩
            have HR2a := hid (HR2.out x1 b1)
            clear HR1a HR2
            go_wp2_with fail
            refine HR2a.out.mono ?_
            rintro e x2 ⟨rfl, b2⟩
            have b12 := b1.trans (b2.mono b1.size)
            have HR3a := hid (HR3.out x2 b12)
            clear HR2a HR3 b1 b2
            go_wp2_with fail
            refine HR3a.out.mono ?_
            rintro e x3 ⟨rfl, b3⟩
            have b13 := HW.out.trans ((b12.trans (b3.mono b12.size)).mono HW.out.size)
            clear b12 b3 HR3a
            go_wp2
            go_ret
            exact ⟨rfl, b13⟩
      · rw [ha, hb]
        obtain ⟨u1, u2, rfl, _⟩ := HUB.out.slice
        obtain ⟨v1, v2, rfl, _⟩ := HV.out.slice
        go_wp2
        go_ret
        exact ⟨rfl, hbe3⟩
    · rw [ha]
      obtain ⟨u1, u2, rfl, _⟩ := HUB.out.slice
      obtain ⟨v1, v2, rfl, _⟩ := HV.out.slice
      go_wp2
      go_ret
      exact ⟨rfl, hbe3⟩
end Go.Proofs.YtfnibkepkomcdaaDoor.LxPW
