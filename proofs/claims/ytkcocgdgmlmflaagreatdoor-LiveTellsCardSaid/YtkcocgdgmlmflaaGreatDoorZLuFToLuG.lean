/- A walk over fescueref11.Ends. Walks over fescueref11.asked, At, End. Walks over fescueref11.At, End. -/
import Derived.Test.YtkcocgdgmlmflaaGreatDoorZLiDToLuL
import Derived.Deep.RegionWith
import Derived.Test.YtkcocgdgmlmflaaGreatDoorZIntGToLiC
namespace Go.Proofs.YtkcocgdgmlmflaaGreatDoor.LuF
open Go.RowKit Go.Lib RwO SetP IntO TyM TyP TyB TyC TyRA TyD ShM ShP ShA ShB ShC ShE ShRA ShH ShI ShJ ShRG ShRH Aft FwM FwC FwP FwQ FwR FvA FvB LvM LvQ LuB LuM LuC LuL LuE

set_option maxRecDepth 100000 in
set_option maxHeartbeats 8000000 in
theorem ends_calls (p : Px) (f : Int) (k : Nat) (x : Fx) (N : Nat) (v : Value) (w : World) (hp : PrAt w v p) (hok : POk p) (hz : chkP p = 0) (h1 : Has1 p f k x)
    (hN : N = parOf p.types x.sig + manyB x.blocks) (hN2 : N ≤ 100000) :
    Calls Tryz.prog 25 #[v, .int .i64 f] w (fun e w' => ∃ u, e = .returned u ∧ BbAt w' u x.blocks.length N (YT (parOf p.types x.sig) x.blocks x.blocks.length) ∧ Below w.heap.size w w') := by
  have hp0 := hp
  obtain ⟨vt, vf, rfl, ht, hf⟩ := hp
  obtain ⟨W, hW⟩ : ∃ W, W = w.alloc (.cells #[vt, vf] 25) := ⟨_, rfl⟩
  have hbW : Below w.heap.size w W := by rw [hW]; exact alloc_below _ _
  have k1 : W.heap[w.heap.size]? = some (.cells #[vt, vf] 25 (0, 0)) := by rw [hW]; exact TyD.alloc_new _ _
  have HPW := hid (hp0.below hbW)
  have HCNT := hid (fun wx (hx : Aft W wx) => count_calls p f k x (.agg #[vt, vf]) wx (HPW.out.below hx.below) h1 (by omega))
  rw [← hN] at HCNT
  have HAE := hid (fun b (hb : b < x.blocks.length) (X : Nat → Nat → Bool) vb wx (hx : Aft W wx) (hv : BbAt wx vb x.blocks.length N X) => atEnd_calls p f k x b N X (.agg #[vt, vf]) vb wx (HPW.out.below hx.below) hok hz h1 hb hN hN2 hv)
  have HLI := hid (fun b (hb : b < x.blocks.length) (e : Nat → Bool) vb wx (hx : Aft W wx) (hv : BoolsAt wx vb (vec N e)) => lives_calls p f k x b 0 N e (.agg #[vt, vf]) vb wx (HPW.out.below hx.below) hok hz h1 hb (Nat.zero_le _) hN hN2 hv)
  obtain ⟨fb, foff, fcap, ao, bc, he, d0, d1, hbl⟩ := fn_later (hf.below fnStays hbW) h1
  cases he
  obtain ⟨ta, tc, rfl⟩ := ht.slice
  have l0 := later_cells k1 0 _ rfl; have l1 := later_cells k1 1 _ rfl
  have hke := h1.eq
  have hkl := h1.lt
  have HBW := hid hbW
  have HW := hid hW
  have h0 := Aft.refl W
  have h16 := h1.blocks
  have hXS := fun t b (hb : b < x.blocks.length) r => XT_succ (par := parOf p.types x.sig) (t := t) hb r
  have HXS := hid hXS
  have HYT : Hid (∀ t b, goT x.blocks (XT (parOf p.types x.sig) x.blocks t) b (succ x.blocks b) = YT (parOf p.types x.sig) x.blocks t b) := fun t b => rfl
  have HX0 := hid (fun j r => XT_zero (parOf p.types x.sig) x.blocks j r)
  clear hp0 hok hz h1 hf ht hbW hW k1 hbl hN hXS
  subst hke
  obtain ⟨sg, bl⟩ := x
  simp only at *
  generalize parOf p.types sg = par at *
  generalize p.types.length = n1 at *
  generalize p.funcs.length = n2 at *
  have HLIV := hid (fun b (hb : b < bl.length) t vb wx (hx : Aft W wx) (hv : BoolsAt wx vb (vec N (YT par bl t b))) => HLI.out b hb (YT par bl t b) vb wx hx hv)
  simp only [List.drop_zero] at HLIV
  have HL2 : Hid (∀ b, b < bl.length → ∀ t vb wx, Aft W wx → BoolsAt wx vb (vec N (YT par bl t b)) → Calls Tryz.prog 24 #[.agg #[.slice ta n1 tc, .slice (some ⟨fb, foff, none⟩) n2 fcap], .int .i64 (k : Int), .int .i64 (b : Int), .int .i64 0, vb] wx (VecR N (XT par bl (t + 1) b) wx)) := by
    intro b hb t vb wx hx hv
    have h := HLIV.out b hb t vb wx hx hv
    have he : (XT par bl (t + 1) b) = wth (ownN par bl) b bl[b].en (YT par bl t b) 0 bl[b].ins := by funext r; exact HXS.out t b hb r
    rw [he]
    exact h
  have HA2 : Hid (∀ b, b < bl.length → ∀ t vb wx, Aft W wx → BbAt wx vb bl.length N (XT par bl t) → Calls Tryz.prog 44 #[.agg #[.slice ta n1 tc, .slice (some ⟨fb, foff, none⟩) n2 fcap], .int .i64 (k : Int), .int .i64 (b : Int), vb] wx (VecR N (YT par bl t b) wx)) := fun b hb t vb wx hx hv => HAE.out b hb _ vb wx hx hv
  clear HLIV HLI HAE HXS HYT
  obtain ⟨i0, hi, hz0, hz1, hz2⟩ := info_parts info_bool
  have hmk : ∀ wx : World, (Instr.makeSlice 71 (.int .i64 (N : Int)) (.int .i64 (N : Int))).run Tryz.prog wx = .ok (.slice (some ⟨wx.heap.size, 0, none⟩) N N) (wx.alloc (.cells (madeCells (Value.bool false).cells N) 4)) := by
    intro wx
    have := run_make (P := Tryz.prog) wx 71 4 i0 (.bool false) Tryz.underlying71 hi hz0 .i64 .i64 N N (by omega) (by omega) (by rw [hz2]; omega) (by omega)
    rw [hz1, Int.toNat_natCast, Nat.mul_one] at this
    exact this
  have HMADE := hid (fun wx (h : W.heap.size ≤ wx.heap.size) => own_made wx W.heap.size N h hN2)
  generalize madeCells (Value.bool false).cells N = mk at *
  clear hi hz0 hz1 hz2 i0
  obtain ⟨i0, hi, hz0, hz1, hz2⟩ := info_parts info_bools
  have hmr : ∀ wx : World, (Instr.makeSlice 73 (.int .i64 (bl.length : Int)) (.int .i64 (bl.length : Int))).run Tryz.prog wx = .ok (.slice (some ⟨wx.heap.size, 0, none⟩) bl.length bl.length) (wx.alloc (.cells (madeCells (Value.slice none 0 0).cells bl.length) 71)) := by
    intro wx
    have := run_make (P := Tryz.prog) wx 73 71 i0 (.slice none 0 0) Tryz.underlying73 hi hz0 .i64 .i64 bl.length bl.length (by omega) (by omega) (by rw [hz2]; omega) (by omega)
    rw [hz1, Int.toNat_natCast, Nat.mul_one] at this
    exact this
  have HMR := hid (fun wx X (h : W.heap.size ≤ wx.heap.size) => own_made_rows wx W.heap.size bl.length N X h (by omega))
  generalize madeCells (Value.slice none 0 0).cells bl.length = mr at *
  clear hi hz0 hz1 hz2 i0
  have HLE0 : Hid (Le W W.heap.size (W.heap.size + 1) bl.length N 0 0 (XT par bl 0) (YT par bl 0) ((W.alloc (.cells mr 71)).alloc (.cells mr 71))) := by
    have e1 : (W.alloc (.cells mr 71)).heap.size = W.heap.size + 1 := by simp
    have h2 := HMR.out (W.alloc (.cells mr 71)) (YT par bl 0) (by rw [e1]; omega)
    rw [e1] at h2
    exact ⟨((Aft.refl W).alloc _).alloc _, OwnBk.below (HMR.out W (XT par bl 0) (Nat.le_refl _)) (alloc_below _ _), h2, by omega⟩
  have hsz : W.heap.size = w.heap.size + 1 := by rw [HW.out]; simp
  rw [hsz] at HLE0
  have hA0 : Aft W (w.alloc (.cells #[.slice ta n1 tc, .slice (some ⟨fb, foff, none⟩) n2 fcap] 25)) := by rw [← HW.out]; exact h0
  have HGB : Hid (∃ gb, gb = w.heap.size + 1) := ⟨_, rfl⟩
  go_enter Tryz.func25, Tryz.ntmps25
  go_wp2_with fail
  rw [← HW.out]
  have hgne : Hid (W.heap.size ≤ w.heap.size + 1) := by show _ ≤ _; omega
  generalize w.heap.size + 1 + 1 = ge at *
  generalize hgbe : w.heap.size + 1 = gb at *
  clear hA0 HGB hmr HMR hsz hgbe
  go_loopg [8] bl.length (fun gk iv wr => ∃ b : Nat, b + gk = bl.length ∧ iv = .int .i64 b ∧ Le W gb ge bl.length N b 0 (XT par bl 0) (YT par bl 0) wr)
  case atStart => exact ⟨0, by omega, rfl, HLE0.out⟩
  case round =>
    obtain ⟨b, hb, rfl, hle⟩ := hrel
    have HB := hid hb
    have HLE := hid hle
    by_cases hlt : b < bl.length
    · have HLT := hid hlt
      have hA := hle.aft
      have HC := hid (HCNT.out wr hA)
      have hbl1 : (b : Int) < (bl.length : Int) := by omega
      clear hb hle HLE0
      go_wp2_with fail
      refine HC.out.mono ?_
      rintro e w3 ⟨rfl, hb3⟩
      have hle3 := (HLE.out.go hb3).go (alloc_below w3 (.cells mk 4))
      have hset := hle3.setB (u := .slice (some ⟨w3.heap.size, 0, none⟩) N N) (HMADE.out w3 ((hA.go hb3).size))
      obtain ⟨u0, hlg, hc, hfz, _⟩ := hle3.beg.cell b hlt
      have hlg3 : gb < w3.heap.size := by
        obtain ⟨_, h, _⟩ := (HLE.out.go hb3).beg.cell b hlt
        exact h
      rw [World.setCell_alloc_past (hn := hlg3)] at hset
      have HSET := hid hset
      clear hle3 hset hb3 hA HC HLE
      go_wp2
      go_roundg (gk - 1)
      case measure => have := HB.out; have := HLT.out; omega
      case rel => exact ⟨b + 1, by have := HB.out; have := HLT.out; omega, by go_num, HSET.out⟩
    · obtain rfl : bl.length = b := by omega
      have HLE9 : Hid (Le W gb ge bl.length N bl.length (if (0 : Nat) = 0 then 0 else bl.length) (XT par bl 0) (YT par bl (0 - 1)) wr) := HLE.out
      have hgne2 : gb < wr.heap.size := (Array.getElem?_eq_some_iff.1 (hle.beg.typed.2.choose_spec.choose_spec)).1
      clear hb hle HB HLE0 hlt HCNT HMADE hmk HLE hgne2
      go_wp2
      go_loopg [9] (bl.length + 1) (fun gk iv wr => ∃ t : Nat, t + gk = bl.length + 1 ∧ iv = .int .i64 t ∧ Le W gb ge bl.length N bl.length (if t = 0 then 0 else bl.length) (XT par bl t) (YT par bl (t - 1)) wr)
      case atStart => exact ⟨0, by omega, rfl, HLE9.out⟩
      case round =>
        obtain ⟨t, ht, rfl, hle⟩ := hrel
        have HT := hid ht
        clear HLE9
        by_cases hlt : t < bl.length + 1
        · have HLT := hid hlt
          have htl : (t : Int) ≤ (bl.length : Int) := by omega
          have HLE := hid (hle.againE (Z := YT par bl t))
          obtain ⟨g2, hg2⟩ : ∃ g2 : Nat, g2 = gk := ⟨gk, rfl⟩
          subst hg2
          obtain ⟨wo, hwo⟩ : ∃ wo : World, wo = wr := ⟨wr, rfl⟩
          subst hwo
          clear ht hle
          go_wp2
          go_loopg [10] bl.length (fun gk iv wr => ∃ b : Nat, b + gk = bl.length ∧ iv = .int .i64 b ∧ Le W gb ge bl.length N bl.length b (XT par bl t) (YT par bl t) wr)
          case atStart => exact ⟨0, by omega, rfl, HLE.out⟩
          case round =>
            obtain ⟨b, hb, rfl, hle⟩ := hrel
            have HB := hid hb
            have HLE1 := hid hle
            clear HLE
            by_cases hltb : b < bl.length
            · have HLTB := hid hltb
              have hA := hle.aft
              have HC := hid (HA2.out b hltb t _ wr hA (hle.beg.at hN2))
              have hbl1 : (b : Int) < (bl.length : Int) := by omega
              clear hb hle
              go_wp2_with fail
              refine HC.out.mono ?_
              rintro e w3 ⟨u, rfl, hu, hb3⟩
              have hle3 := HLE1.out.go hb3
              have hset := hle3.setE (OwnB.base hu hA.size)
              have HSET := hid hset
              obtain ⟨u0, hlg, hc, hfz, _⟩ := hle3.fin.cell b hltb
              have hu2 := hu
              unfold OwnB at hu2
              rw [vec_len] at hu2
              obtain ⟨ua, un, rfl⟩ := own_slice hu2
              clear hle3 hset hb3 hA HC HLE1 hu hu2
              go_wp2
              go_roundg (gk - 1)
              case measure => have := HB.out; have := HLTB.out; omega
              case rel => exact ⟨b + 1, by have := HB.out; have := HLTB.out; omega, by go_num, HSET.out⟩
            · obtain rfl : bl.length = b := by omega
              have HLE := hid (hle.againB (Z := XT par bl (t + 1)))
              obtain ⟨wo, hwo⟩ : ∃ wo : World, wo = wr := ⟨wr, rfl⟩
              subst hwo
              clear hb hle HB HLE1 hltb
              go_wp2
              go_loopg [11] bl.length (fun gk iv wr => ∃ b : Nat, b + gk = bl.length ∧ iv = .int .i64 b ∧ Le W gb ge bl.length N b bl.length (XT par bl (t + 1)) (YT par bl t) wr)
              case atStart => exact ⟨0, by omega, rfl, HLE.out⟩
              case round =>
                obtain ⟨b, hb, rfl, hle⟩ := hrel
                have HB := hid hb
                have HLE1 := hid hle
                clear HLE
                by_cases hltb : b < bl.length
                · have HLTB := hid hltb
                  have hA := hle.aft
                  obtain ⟨u1, hl1, c1, f1, hu1⟩ := hle.fin.cell b hltb
                  have hb1 := (hu1 hltb).bools (by rw [vec_len]; omega)
                  have HC := hid (fun wx (hx : Below wr.heap.size wr wx) => HL2.out b hltb t u1 wx (hA.go hx) (hb1.below hx))
                  obtain ⟨ba, bac, rfl, _⟩ := bools_slice hb1
                  rw [vec_len] at HC c1
                  have hbl1 : (b : Int) < (bl.length : Int) := by omega
                  have HD : Hid (Below wr.heap.size wr wr.drew) := (Below.refl _ _).drew
                  have HSZ : Hid (W.heap.size ≤ wr.heap.size) := hA.size
                  clear hb hle hb1 hu1
                  go_wp2_with fail
                  go_region_with (go_at_call 24; refine (HC.out _ HD.out).mono ?_; rintro e w3 ⟨u, rfl, hu, hb3⟩; have hle3 := HLE1.out.go (HD.out.trans hb3); have hset := hle3.setB (OwnB.base hu HSZ.out); obtain ⟨u0, hlg, hc, hfz, _⟩ := hle3.beg.cell b HLTB.out; have hu2 := hu; unfold OwnB at hu2; rw [vec_len] at hu2; obtain ⟨ua, un, rfl⟩ := own_slice hu2; have HSET := hid hset; clear hle3 hset hu hu2 hb3)
                  all_goals
                    go_wp2
                    go_roundg (gk - 1)
                    case measure => have := HB.out; have := HLTB.out; omega
                    case rel => exact ⟨b + 1, by have := HB.out; have := HLTB.out; omega, by go_num, HSET.out⟩
                · obtain rfl : bl.length = b := by omega
                  clear hb hle HB hltb
                  have HNX : Hid (Le W gb ge bl.length N bl.length (if t + 1 = 0 then 0 else bl.length) (XT par bl (t + 1)) (YT par bl (t + 1 - 1)) wr) := HLE1.out
                  clear HLE1
                  go_wp2
                  go_roundg (g2 - 1)
                  case measure => have := HT.out; have := HLT.out; omega
                  case rel => exact ⟨t + 1, by have := HT.out; have := HLT.out; omega, by go_num, HNX.out⟩
        · obtain rfl : t = bl.length + 1 := by omega
          have hfin := hle.fin
          rw [if_neg (by omega)] at hfin
          have HFIN : Hid (BbAt wr (.slice (some ⟨ge, 0, none⟩) bl.length bl.length) bl.length N (YT par bl bl.length)) := hfin.at hN2
          have HEND : Hid (Below w.heap.size w wr) := hle.aft.out HBW.out
          have htl : (bl.length : Int) < ((bl.length + 1 : Nat) : Int) := by omega
          clear ht hle HT hlt hfin
          go_wp2
          go_ret
          exact ⟨_, rfl, HFIN.out, HEND.out⟩
end Go.Proofs.YtkcocgdgmlmflaaGreatDoor.LuF
namespace Go.Proofs.YtkcocgdgmlmflaaGreatDoor.LuA
open Go.RowKit Go.Lib RwO SetP IntO TyM TyP TyB TyC TyRA ShM ShP ShA ShB ShC ShE ShRA ShH ShI ShJ ShL ShRG ShRH ShRI Aft FwM FwC FwP FwQ FwR FvA FvB FdQ LvM LvQ LuB LuM LuC LuL LuE LuF LuN

/-- a block's instructions, in every world behind -/
theorem ins_there {W : World} {ao : Option Addr} {n c : Nat} {l : List Bx} (h : BlksAt W (.slice ao n c) l) (b : Nat) (hb : b < l.length) : ∃ g off ia ic, ao = some ⟨g, off, none⟩ ∧ l[b].ins.length ≤ 9223372036854775807 ∧ ∀ w', Aft W w' → w'.cell? ⟨g, off + b * 5, none⟩ = some (.slice ia l[b].ins.length ic) := by
  obtain ⟨g, off, rfl, hlt, vi, c0, _, _, _, _, hi⟩ := h.at b hb
  obtain ⟨ia, ic, rfl, hl⟩ := hi.slice
  exact ⟨g, off, ia, ic, rfl, hl, later c0⟩

set_option maxRecDepth 100000 in
set_option maxHeartbeats 8000000 in
theorem askedL_calls (p : Px) (f b pl : Int) (v : Value) (w : World) (hp : PrAt w v p) (hs : Small p) (hok : POk p) :
    Calls Tryz.prog 22 #[v, .int .i64 f, .int .i64 b, .int .i64 pl] w (NumR (atE p f b pl) w) := by
  have hp0 := hp
  obtain ⟨vt, vf, rfl, ht, hf⟩ := hp
  obtain ⟨W, hW⟩ : ∃ W, W = w.alloc (.cells #[vt, vf] 25) := ⟨_, rfl⟩
  have hbW : Below w.heap.size w W := by rw [hW]; exact alloc_below _ _
  have k1 : W.heap[w.heap.size]? = some (.cells #[vt, vf] 25 (0, 0)) := by rw [hW]; exact alloc_new _ _
  have hpW := hp0.below hbW
  have HR := hid (FvB.next_calls p f b _ W hpW hs hok)
  have HFN := hid (fun (k : Nat) (x : Fx) (h1 : Has1 p f k x) => fn_later (hf.below fnStays hbW) h1)
  have HOK := hid hok
  obtain ⟨ta, tc, rfl⟩ := ht.slice
  obtain ⟨fa, fc, rfl, _⟩ := hf.slice
  have l0 := later_cells k1 0 _ rfl; have l1 := later_cells k1 1 _ rfl
  have HBW := hid hbW
  have HW := hid hW
  have h0 := Aft.refl W
  clear ht hf hpW hbW hW k1 hp0 hs hok
  by_cases hz : askB p f b = 0
  rotate_left
  · have HAE : Hid (atE p f b pl = askB p f b) := by show _ = _; unfold atE; rw [if_pos hz]
    rw [HAE.out]
    have e0 : (askB p f b == 0) = false := by simpa using hz
    clear HFN hz HOK HAE
    generalize nextA p f b = na at *
    generalize askB p f b = fe at *
    generalize p.types.length = n1 at *
    generalize p.funcs.length = n2 at *
    go_enter Tryz.func22, Tryz.ntmps22
    go_wp2_with fail
    rw [← HW.out]
    refine HR.out.mono ?_
    rintro e w1 ⟨u, rfl, _, hb1⟩
    have h1 := h0.go hb1
    clear HR hb1
    go_wp2
    go_ret
    exact ⟨rfl, h1.out HBW.out⟩
  rw [hz] at HR
  obtain ⟨hz1, b0, b1⟩ := ask_zero hz
  obtain ⟨j, hj⟩ : ∃ j : Nat, b = j := ⟨b.toNat, by omega⟩
  subst hj
  obtain ⟨k, x, h1⟩ := has1 hz1
  have HAT : Hid (atE p f (j : Int) pl = if pl < 0 ∨ (insN (blsP p f) (j : Int) : Int) < pl then 2 else 0) := by show _ = _; unfold atE; rw [if_neg (fun e => e hz)]
  rw [fn_blocks h1] at HAT b1
  obtain ⟨fb, foff, fcap, ao, bc, he, d0, d1, hbl⟩ := HFN.out k x h1
  cases he
  have hjl : j < x.blocks.length := by omega
  obtain ⟨gb, goff, ia, ic, rfl, hil, hins⟩ := ins_there hbl j hjl
  rw [insN_at hjl] at HAT
  have hke := h1.eq
  have hkl := h1.lt
  clear HFN HOK h1 hz hz1 b0 b1 hbl
  subst hke
  generalize nextA p (k : Int) (j : Int) = na at *
  generalize atE p (k : Int) (j : Int) pl = ae at *
  obtain ⟨sg, bl⟩ := x
  simp only at *
  generalize bl[j].ins.length = n4 at *
  generalize p.types.length = n1 at *
  generalize p.funcs.length = n2 at *
  generalize bl.length = n3 at *
  have hjl2 : (j : Int) < (n3 : Int) := by omega
  by_cases p0 : pl < 0
  · rw [if_pos (.inl p0)] at HAT
    rw [HAT.out]
    clear HAT
    go_enter Tryz.func22, Tryz.ntmps22
    go_wp2_with fail
    rw [← HW.out]
    refine HR.out.mono ?_
    rintro e w1 ⟨u, rfl, _, hb1⟩
    have h1 := h0.go hb1
    have HEE := hid (h1.out HBW.out)
    clear HR hb1
    go_wp2
    all_goals first | (exfalso; omega) | (go_ret; exact ⟨rfl, HEE.out⟩)
  by_cases p1 : (n4 : Int) < pl
  · rw [if_pos (.inr p1)] at HAT
    rw [HAT.out]
    clear HAT
    go_enter Tryz.func22, Tryz.ntmps22
    go_wp2_with fail
    rw [← HW.out]
    refine HR.out.mono ?_
    rintro e w1 ⟨u, rfl, _, hb1⟩
    have h1 := h0.go hb1
    have HEE := hid (h1.out HBW.out)
    clear HR hb1
    go_wp2
    all_goals first | (exfalso; omega) | (go_ret; exact ⟨rfl, HEE.out⟩)
  rw [if_neg (by omega)] at HAT
  rw [HAT.out]
  clear HAT
  go_enter Tryz.func22, Tryz.ntmps22
  go_wp2_with fail
  rw [← HW.out]
  refine HR.out.mono ?_
  rintro e w1 ⟨u, rfl, _, hb1⟩
  have h1 := h0.go hb1
  have HEE := hid (h1.out HBW.out)
  clear HR hb1
  go_wp2
  all_goals first | (exfalso; omega) | (go_ret; exact ⟨rfl, HEE.out⟩)
end Go.Proofs.YtkcocgdgmlmflaaGreatDoor.LuA
namespace Go.Proofs.YtkcocgdgmlmflaaGreatDoor.LuG
open Go.RowKit Go.Lib RwO SetP IntO TyM TyP TyB TyC TyRA ShM ShP ShA ShB ShC ShE ShRA ShH ShI ShJ ShL ShRG ShRH ShRI Aft FwM FwC FwP FwQ FwR FvA FvB FdQ LvM LvQ LuB LuM LuC LuL LuE LuF LuN LuA

set_option maxRecDepth 100000 in
set_option maxHeartbeats 8000000 in
theorem at_calls (p : Px) (f b pl : Int) (v : Value) (w : World) (hp : PrAt w v p) (hs : Small p) (hok : POk p) :
    Calls Tryz.prog 7 #[v, .int .i64 f, .int .i64 b, .int .i64 pl] w (LstE (liveA p f b pl) (atE p f b pl) w) := by
  have hp0 := hp
  obtain ⟨vt, vf, rfl, ht, hf⟩ := hp
  obtain ⟨W, hW⟩ : ∃ W, W = w.alloc (.cells #[vt, vf] 25) := ⟨_, rfl⟩
  have hbW : Below w.heap.size w W := by rw [hW]; exact alloc_below _ _
  have k1 : W.heap[w.heap.size]? = some (.cells #[vt, vf] 25 (0, 0)) := by rw [hW]; exact TyD.alloc_new _ _
  have hpW := hp0.below hbW
  have HR := hid (askedL_calls p f b pl _ W hpW hs hok)
  have HPW := hid hpW
  have HS := hid hs
  have HOK := hid hok
  obtain ⟨ta, tc, rfl⟩ := ht.slice
  obtain ⟨fa, fc, rfl, _⟩ := hf.slice
  have l0 := later_cells k1 0 _ rfl; have l1 := later_cells k1 1 _ rfl
  have HBW := hid hbW
  have HW := hid hW
  have h0 := Aft.refl W
  clear ht hf hpW hbW hW k1 hp0 hs hok
  by_cases hz : atE p f b pl = 0
  rotate_left
  · have HA : Hid (liveA p f b pl = []) := by show _ = _; unfold liveA; rw [if_neg hz]
    rw [HA.out]
    have e0 : (atE p f b pl != 0) = true := by simpa using hz
    clear hz HA HPW HS HOK
    generalize atE p f b pl = fe at *
    generalize p.types.length = n1 at *
    generalize p.funcs.length = n2 at *
    go_enter Tryz.func7, Tryz.ntmps7
    go_wp2_with fail
    rw [← HW.out]
    refine HR.out.mono ?_
    rintro e w1 ⟨rfl, hb1⟩
    have h1 := h0.go hb1
    clear HR hb1
    go_wp2
    go_ret2
    exact ⟨_, rfl, ints_none _, h1.out HBW.out⟩
  obtain ⟨hz0, p0, p1⟩ := atE_zero hz
  obtain ⟨hz1, b0, b1⟩ := ask_zero hz0
  obtain ⟨j, hj⟩ : ∃ j : Nat, b = j := ⟨b.toNat, by omega⟩
  subst hj
  obtain ⟨a, ha⟩ : ∃ a : Nat, pl = a := ⟨pl.toNat, by omega⟩
  subst ha
  obtain ⟨k, x, h1⟩ := has1 hz1
  have hcnt := cnt_at h1
  have hpar : parP p f = parOf p.types x.sig := by
    unfold parP ShK.fnP
    rw [h1.eq, Int.toNat_natCast, h1.at_]
    rfl
  have hbls := fn_blocks h1
  rw [hbls] at b1 p1
  have hjl : j < x.blocks.length := by omega
  rw [insN_at hjl] at p1
  have hal : a ≤ x.blocks[j].ins.length := by omega
  obtain ⟨N, hN⟩ : ∃ N, N = parOf p.types x.sig + manyB x.blocks := ⟨_, rfl⟩
  have hN2 : N ≤ 100000 := by
    have := par_le HS.out.parts h1.sig0 h1.sig1
    have := h1.many
    omega
  have HA : Hid (liveA p f (j : Int) (a : Int) = ints ((List.range N).filter fun r => livB (parOf p.types x.sig) x.blocks j a r)) := by
    show _ = _
    unfold liveA livesL
    rw [if_pos hz, hcnt, hpar, hbls, Int.toNat_natCast, Int.toNat_natCast, hN]
  have hchk := (find_zero hz1).1
  have HE := hid (fun wx (hx : Aft W wx) => ends_calls p f k x N _ wx (HPW.out.below hx.below) HOK.out hchk h1 hN hN2)
  have HL := hid (fun wx (hx : Aft W wx) (e : Nat → Bool) vb (hv : BoolsAt wx vb (vec N e)) => lives_calls p f k x j a N e _ vb wx (HPW.out.below hx.below) HOK.out hchk h1 hjl hal hN hN2 hv)
  have HLQ := hid (fun r => liv_eq (par := parOf p.types x.sig) (pl := a) (r := r) hjl)
  have HN := hid (fun (g : Nat → Bool) u (wx : World) (hv : BoolsAt wx u (vec N g)) => numbers_calls N g u wx hv hN2)
  rw [HA.out, hz]
  rw [hz] at HR
  have hjl1 : (j : Int) < (x.blocks.length : Int) := by omega
  have hke := h1.eq
  clear hz hz0 hz1 p0 p1 b0 b1 hcnt hpar hbls hN hchk HA HPW HS HOK h1
  subst hke
  have HFN : Hid ((fun r => livB (parOf p.types x.sig) x.blocks j a r) = wth (ownN (parOf p.types x.sig) x.blocks) j (x.blocks[j]).en (YT (parOf p.types x.sig) x.blocks x.blocks.length j) a ((x.blocks[j]).ins.drop a)) := by
    show _ = _
    funext r
    exact (HLQ.out r).symm
  rw [HFN.out]
  clear HFN HLQ
  generalize YT (parOf p.types x.sig) x.blocks x.blocks.length = Y at *
  obtain ⟨sg, bl⟩ := x
  simp only at *
  generalize parOf p.types sg = par at *
  generalize hwt : wth (ownN par bl) j bl[j].en (Y j) a (bl[j].ins.drop a) = R at *
  have HL2 : Hid (∀ wx, Aft W wx → ∀ vb, BoolsAt wx vb (vec N (Y j)) → Calls Tryz.prog 24 #[.agg #[.slice ta p.types.length tc, .slice fa p.funcs.length fc], .int .i64 (k : Int), .int .i64 (j : Int), .int .i64 (a : Int), vb] wx (VecR N R wx)) := by
    intro wx hx vb hv
    rw [← hwt]
    exact HL.out wx hx (Y j) vb hv
  clear hwt HL hal
  generalize p.types.length = n1 at *
  generalize p.funcs.length = n2 at *
  generalize bl.length = n3 at *
  go_enter Tryz.func7, Tryz.ntmps7
  go_wp2_with fail
  rw [← HW.out]
  refine HR.out.mono ?_
  rintro e w1 ⟨rfl, hb1⟩
  have h1 := h0.go hb1
  have HD : Hid (Aft W w1.drew) := h1.drew
  clear HR hb1
  go_wp2_with fail
  go_region_with (first
    | (go_at_call 25; refine (HE.out _ HD.out).mono ?_; rintro e w3 ⟨u, rfl, hu, hb3⟩; have hA3 := Aft.go HD.out hb3; obtain ⟨ao, c, rfl⟩ := hu.slice; obtain ⟨gb2, ba, bc2, rfl, cb, hbo⟩ := hu.at j hjl; have HA3 := hid hA3; have HBO := hid hbo; clear hu hbo)
    | (go_at_call 24; refine (HL2.out _ HA3.out _ HBO.out).mono ?_; rintro e w4 ⟨u4, rfl, hu4, hb4⟩; have hv4 := hu4.bools (by rw [vec_len]; omega); have HV4 := hid hv4; have HA4 := hid (Aft.go HA3.out hb4); clear hu4 hb4 hv4)
    | (go_at_call 23; refine (HN.out _ _ _ HV4.out).mono ?_; rintro e w5 ⟨u5, rfl, hi5, hb5⟩; have HI5 := hid hi5; have HA5 := hid (Aft.go HA4.out hb5); clear hi5 hb5))
  all_goals
    go_wp2
    go_ret2
    exact ⟨_, rfl, HI5.out, HA5.out.out HBW.out⟩
set_option maxRecDepth 100000 in
set_option maxHeartbeats 8000000 in
theorem end_calls (p : Px) (f b : Int) (v : Value) (w : World) (hp : PrAt w v p) (hs : Small p) (hok : POk p) :
    Calls Tryz.prog 9 #[v, .int .i64 f, .int .i64 b] w (LstE (lendA p f b) (askB p f b) w) := by
  have hp0 := hp
  obtain ⟨vt, vf, rfl, ht, hf⟩ := hp
  obtain ⟨W, hW⟩ : ∃ W, W = w.alloc (.cells #[vt, vf] 25) := ⟨_, rfl⟩
  have hbW : Below w.heap.size w W := by rw [hW]; exact alloc_below _ _
  have k1 : W.heap[w.heap.size]? = some (.cells #[vt, vf] 25 (0, 0)) := by rw [hW]; exact TyD.alloc_new _ _
  have hpW := hp0.below hbW
  have HR := hid (askedL_calls p f b 0 _ W hpW hs hok)
  rw [atE_first] at HR
  have HPW := hid hpW
  have HS := hid hs
  have HOK := hid hok
  obtain ⟨ta, tc, rfl⟩ := ht.slice
  obtain ⟨fa, fc, rfl, _⟩ := hf.slice
  have l0 := later_cells k1 0 _ rfl; have l1 := later_cells k1 1 _ rfl
  have HBW := hid hbW
  have HW := hid hW
  have h0 := Aft.refl W
  clear ht hf hpW hbW hW k1 hp0 hs hok
  by_cases hz : askB p f b = 0
  rotate_left
  · have HA : Hid (lendA p f b = []) := by show _ = _; unfold lendA; rw [if_neg hz]
    rw [HA.out]
    have e0 : (askB p f b != 0) = true := by simpa using hz
    clear hz HA HPW HS HOK
    generalize askB p f b = fe at *
    generalize p.types.length = n1 at *
    generalize p.funcs.length = n2 at *
    go_enter Tryz.func9, Tryz.ntmps9
    go_wp2_with fail
    rw [← HW.out]
    refine HR.out.mono ?_
    rintro e w1 ⟨rfl, hb1⟩
    have h1 := h0.go hb1
    clear HR hb1
    go_wp2
    go_ret2
    exact ⟨_, rfl, ints_none _, h1.out HBW.out⟩
  obtain ⟨hz1, b0, b1⟩ := ask_zero hz
  obtain ⟨j, hj⟩ : ∃ j : Nat, b = j := ⟨b.toNat, by omega⟩
  subst hj
  obtain ⟨k, x, h1⟩ := has1 hz1
  have hcnt := cnt_at h1
  have hpar : parP p f = parOf p.types x.sig := by
    unfold parP ShK.fnP
    rw [h1.eq, Int.toNat_natCast, h1.at_]
    rfl
  have hbls := fn_blocks h1
  rw [hbls] at b1
  have hjl : j < x.blocks.length := by omega
  obtain ⟨N, hN⟩ : ∃ N, N = parOf p.types x.sig + manyB x.blocks := ⟨_, rfl⟩
  have hN2 : N ≤ 100000 := by
    have := par_le HS.out.parts h1.sig0 h1.sig1
    have := h1.many
    omega
  have HA : Hid (lendA p f (j : Int) = ints ((List.range N).filter (YT (parOf p.types x.sig) x.blocks x.blocks.length j))) := by
    show _ = _
    unfold lendA endsL
    rw [if_pos hz, hcnt, hpar, hbls, Int.toNat_natCast, hN]
    rfl
  have hchk := (find_zero hz1).1
  have HE := hid (fun wx (hx : Aft W wx) => ends_calls p f k x N _ wx (HPW.out.below hx.below) HOK.out hchk h1 hN hN2)
  have HN := hid (fun (g : Nat → Bool) u (wx : World) (hv : BoolsAt wx u (vec N g)) => numbers_calls N g u wx hv hN2)
  rw [HA.out, hz]
  rw [hz] at HR
  have hjl1 : (j : Int) < (x.blocks.length : Int) := by omega
  have hke := h1.eq
  clear hz hz1 b0 b1 hcnt hpar hbls hN hchk HA HPW HS HOK h1
  subst hke
  generalize YT (parOf p.types x.sig) x.blocks x.blocks.length = Y at *
  obtain ⟨sg, bl⟩ := x
  simp only at *
  generalize parOf p.types sg = par at *
  generalize p.types.length = n1 at *
  generalize p.funcs.length = n2 at *
  generalize bl.length = n3 at *
  go_enter Tryz.func9, Tryz.ntmps9
  go_wp2_with fail
  rw [← HW.out]
  refine HR.out.mono ?_
  rintro e w1 ⟨rfl, hb1⟩
  have h1 := h0.go hb1
  have HD : Hid (Aft W w1.drew) := h1.drew
  clear HR hb1
  go_wp2_with fail
  refine (HE.out _ h1).mono ?_
  rintro e w3 ⟨u, rfl, hu, hb3⟩
  have hA3 := h1.go hb3
  obtain ⟨ao, c, rfl⟩ := hu.slice
  obtain ⟨gb2, ba, bc2, rfl, cb, hbo⟩ := hu.at j hjl
  have HA3 := hid hA3
  have HBO := hid hbo
  clear hu hbo
  go_wp2_with fail
  refine (HN.out _ _ _ HBO.out).mono ?_
  rintro e w5 ⟨u5, rfl, hi5, hb5⟩
  have HI5 := hid hi5
  have HA5 := hid (Aft.go HA3.out hb5)
  clear hi5 hb5
  go_wp2
  go_ret2
  exact ⟨_, rfl, HI5.out, HA5.out.out HBW.out⟩
end Go.Proofs.YtkcocgdgmlmflaaGreatDoor.LuG
