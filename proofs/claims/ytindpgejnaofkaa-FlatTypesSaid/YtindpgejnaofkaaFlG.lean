/- Walk over flat.Flat. -/
import Derived.Test.YtindpgejnaofkaaFlF
namespace Go.Proofs.Ytindpgejnaofkaa.FlG
open Go.RowKit Go.Lib Go.Shelf SetP IntO TyM TyP TyB TyC TyD TyE TyS TyF TyH TyK TyW TyRT TyRC TyN FlM FlP FlQ FlW FlX FlF Fresh

theorem hold_next {t : List Ty} {l : List Int} {c n : Nat} (h : Holds t l c n) (hc : c < (cellsAll t l).length) : ∃ hn : n < l.length, c - offN t l n < (cellsOf t l[n].toNat).length := by
  obtain ⟨h1, h2, h3⟩ := h
  refine ⟨h1, ?_⟩
  have hnx := off_next t l h1
  by_cases hl : n + 1 < l.length
  · have := h3 (n + 1) (by omega) hl
    unfold offN at *
    omega
  · have : l.take (n + 1) = l := List.take_of_length_le (by omega)
    rw [this] at hnx
    unfold offN at *
    omega
theorem hold_at {t : List Ty} {l : List Int} {c n : Nat} (h : Holds t l c n) (hc : c < (cellsAll t l).length) (hn : n < l.length) : inAll t l c = (flatAll t (l.take n)).length + flatAt t l[n].toNat (c - offN t l n) := by
  obtain ⟨_, hd⟩ := hold_next h hc
  have := in_at t l n (c - offN t l n) hn hd
  have h2 := h.2.1
  rw [← this]
  congr 1
  unfold offN at *
  omega
theorem ask_low {t : List Ty} {k : Int} (ha : askT t k = 0) {p : Int} (h0 : 0 ≤ p) (h1 : p < t.length) : askT t p = 0 := by
  unfold askT
  rw [if_pos (askT_zero ha).1, if_pos ⟨h0, h1⟩]
theorem tmod_nat (a b : Nat) : (a : Int).tmod (b : Int) = ((a % b : Nat) : Int) := by rw [Int.ofNat_tmod]

theorem ints_get {w : World} {ao : Option Addr} {n cap k : Nat} {l : List Int} {y : Int} (h : IntsAt w (.slice ao n cap) l) (hk : l[k]? = some y) : ∃ b off, ao = some ⟨b, off, none⟩ ∧ b < w.heap.size ∧ w.cell? ⟨b, off + k, none⟩ = some (.int .i64 y) := by
  obtain ⟨hlt, rfl⟩ := List.getElem?_eq_some_iff.1 hk
  exact ints_at h k hlt

/-- what is at hand while the field of a cell is looked for -/
def Rel (t : List Ty) (A : Nat) (w : World) (kk cc f : Nat) (wr : World) : Prop := f + flatAt t kk cc = A ∧ askT t kk = 0 ∧ cc < (cellsOf t kk).length ∧ Below w.heap.size w wr

set_option maxHeartbeats 2000000 in
theorem flat_calls (t : List Ty) (v : Value) (k c : Int) (w : World) (ht : TysAt w v t) :
    Calls Try.prog 7 #[v, .int .i64 k, .int .i64 c] w (IntER (flatC t k c) (flatE t k c) w) := by
  have HC := hid (cells_calls t v k w ht)
  have HI : Hid (flatC t k c = if flatE t k c = 0 then ((flatAt t k.toNat c.toNat : Nat) : Int) else 0) := rfl
  have HT := hid ht
  obtain ⟨to, tcap, rfl⟩ := ht.slice
  rw [HI.out]
  clear HI ht
  by_cases ha : askT t k = 0
  · rw [ha] at HC
    by_cases hc : 0 ≤ c ∧ c < (listT t k).length
    · rw [if_pos (flatE_in ha hc), flatE_in ha hc]
      obtain ⟨_, _, q, x, rfl, hx, hm, h32⟩ := askT_some ha
      obtain ⟨d, rfl⟩ : ∃ d : Nat, c = d := ⟨c.toNat, by omega⟩
      rw [(list_at ha).1] at HC hc
      rw [Int.toNat_natCast] at HC hc
      rw [Int.toNat_natCast, Int.toNat_natCast]
      have hA : flatAt t q d ≤ 32 := by
        have h1 := (at_type (q + 1) q (by omega) (ask_fit ha) d (by omega)).1
        have h2 := (flat_le (q + 1) q (by omega) (ask_fit ha)).2
        omega
      have HR0 : Hid (∀ wr, Below w.heap.size w wr → Rel t (flatAt t q d) w q d 0 wr) := fun wr hb => ⟨by omega, ha, by omega, hb⟩
      clear hx hm ha
      generalize flatAt t q d = A at *
      generalize cellsOf t q = cl at *
      go_enter Try.func7, Try.ntmps7
      go_wp2_with fail
      go_step3
      go_wp2_with fail
      refine HC.out.mono ?_
      rintro e w1 ⟨cv, rfl, hcv, hb1⟩
      obtain ⟨ca, cc, rfl, _⟩ := ints_slice hcv
      have HR1 := hid (HR0.out w1 hb1)
      clear hcv HR0 HC
      go_wp2_with fail
      go_step3
      go_wp2_with fail
      go_loopg [1, 2, 10] q (fun gk ki ci fi wr => ∃ (kk cc f : Nat), kk = gk ∧ ki = .int .i64 kk ∧ ci = .int .i64 cc ∧ fi = .int .i64 f ∧ Rel t A w kk cc f wr)
      case atStart => exact ⟨q, d, 0, rfl, rfl, rfl, rfl, HR1.out⟩
      case round =>
        obtain ⟨kk, cc, f, rfl, rfl, rfl, rfl, hrel⟩ := hrel
        obtain ⟨hf, ha, hcc, hbe⟩ := hrel
        obtain ⟨_, hlow, n, x, hkn, hx, hm, h32⟩ := askT_some ha
        obtain rfl : kk = n := by omega
        have HA := hid ha
        have HX := hid hx
        have HM := hid hm
        obtain ⟨hk', hx'⟩ := List.getElem?_eq_some_iff.1 hx
        obtain ⟨tb, off, rfl, hlt, pv, c0, c1, c2, c3, hp⟩ := (HT.out.below hbe).at kk hk'
        rw [hx'] at c0 c1 c2 hp
        have HP := hid hp
        obtain ⟨pa, pc, rfl, hpl⟩ := ints_slice hp
        clear hx hx' hp
        cases hs : scalarK x.kind with
        | true =>
          rw [flatAt_scalar HX.out hs, Nat.add_zero] at hf
          have e4 : (x.kind == 4) = false := by unfold scalarK at hs; have := of_decide_eq_true hs; simp; omega
          have e5 : (x.kind == 5) = false := by unfold scalarK at hs; have := of_decide_eq_true hs; simp; omega
          have hfi : (f : Int) = A := by omega
          have hbe2 := hbe.alloc hbe.size (.cells #[.int .u8 x.kind, .int .i64 x.elem, .int .i64 x.many, .slice pa x.parts.length pc] 43)
          clear hs hm ha hcc hlow h32 HR1 hf
          generalize t.length = tn at *
          obtain ⟨xk, xe, xm, xp⟩ := x
          simp only at *
          generalize xp.length = xl at *
          go_wp2
          go_ret2
          exact ⟨by rw [hfi]; rfl, hbe2⟩
        | false =>
          rcases not_scalar hm hs with h4 | h5
          · have hm8 := mayX_struct hm h4
            have hcells := cellsOf_parts HX.out (.inl h4) (mayX_low hm)
            rw [partsOf_struct h4] at hcells
            rw [hcells] at hcc
            rw [flatAt_struct HX.out hm h4] at hf
            have HN : Hid (∀ n, Holds t x.parts cc n → ∃ q : Nat, n < x.parts.length ∧ x.parts[n]? = some (q : Int) ∧ q < kk ∧ offN t x.parts n ≤ cc ∧ f + (flatAll t (x.parts.take n)).length ≤ 32 ∧ ∀ wz, Below w.heap.size w wz → Rel t A w q (cc - offN t x.parts n) (f + (flatAll t (x.parts.take n)).length) wz) := by
              intro n hh
              obtain ⟨hn, hd⟩ := hold_next hh hcc
              have hat := hold_at hh hcc hn
              have hlo := hm8.2.2 _ (List.getElem_mem hn)
              have h3 := hh.2.1
              obtain ⟨q, hq⟩ : ∃ q : Nat, x.parts[n] = (q : Int) := ⟨x.parts[n].toNat, by omega⟩
              rw [hq, Int.toNat_natCast] at hd hat
              rw [hat] at hf
              exact ⟨q, hn, by rw [List.getElem?_eq_getElem hn, hq], by omega, h3, by omega, fun wz hb => ⟨by omega, ask_low HA.out (by omega) (by omega), hd, hb⟩⟩
            have hcc9 : cc ≤ 100000 := by rw [← hcells] at hcc; omega
            have hba : Below wr.heap.size wr (wr.alloc (.cells #[.int .u8 x.kind, .int .i64 x.elem, .int .i64 x.many, .slice pa x.parts.length pc] 43)) := (Below.refl _ _).alloc (Nat.le_refl _) _
            have HH := hid (holder_calls t _ kk cc x _ ((HT.out.below hbe).below hba) HA.out HX.out h4 hcc9)
            have HMY := hid (fun n wx pv (hb : Below w.heap.size w wx) (hp : IntsAt wx pv (x.parts.take n)) => many_calls t _ pv (x.parts.take n) wx (HT.out.below hb) hp (by rw [List.length_take]; omega) (fun p hp => by
              have := hm8.2.2 p (List.mem_of_mem_take hp)
              exact ask_fit (ask_low HA.out (by omega) (by omega))))
            have HBA := hid hba
            have hbe1 := hbe.trans (hba.mono hbe.size)
            have HBE := hid hbe1
            clear hs hm ha hcc hlow h32 HR1 hf hm8 hcells HX HM HA hba hbe1
            have hcap := ints_cap HP.out
            generalize hpe : x.parts = pp at *
            have HPE := hid hpe
            clear hpe
            generalize t.length = tn at *
            obtain ⟨xk, xe, xm, xp⟩ := x
            simp only at *
            subst h4
            generalize hpl2 : pp.length = pl at *
            have HPL := hid hpl2
            clear hpl2
            go_wp2_with fail
            refine HH.out.mono ?_
            rintro e w2 ⟨n, rfl, hhold, hb2⟩
            obtain ⟨qn, hn, hqn, hqk, hoc, htot, hrel2⟩ := HN.out n hhold
            have hbe2 := HBE.out.trans (hb2.mono HBE.out.size)
            have y3 : w2.cell? ⟨wr.heap.size, 3, none⟩ = some (.slice pa pl pc) := keep_below hb2 (by simp)
            have HP2 := hid ((HP.out.below HBA.out).below hb2)
            have HMY2 := hid (HMY.out n w2 _ hbe2 (ints_take HP2.out n (by rw [HPL.out]; omega)))
            clear HN HMY hhold
            generalize (flatAll t (pp.take n)).length = tot at *
            generalize offN t pp n = ofs at *
            go_wp2_with fail
            refine HMY2.out.mono ?_
            rintro e w3 ⟨rfl, hb3⟩
            have hbe3 := hbe2.trans (hb3.mono hbe2.size)
            have y3 := keep_below hb3 y3
            obtain ⟨b, off2, rfl, _, hcp⟩ := ints_get (HP2.out.below hb3) hqn
            have HR3 := hid (hrel2 w3 hbe3)
            clear hb2 hb3 hbe2 HMY2 HP2 hrel2
            go_wp2
            go_roundg qn
            case measure => omega
            case rel => exact ⟨qn, cc - ofs, f + tot, rfl, rfl, by go_num, by go_num, HR3.out⟩
          · have hma := mayX_array hm h5
            have hpa := elems_parts t kk hm x.elem (by rw [elemsOf_array h5]; simp)
            have hcl := cells_le t _ _ hpa
            rw [flatAt_array HX.out hm h5] at hf
            obtain ⟨q, hq⟩ : ∃ q : Nat, x.elem = (q : Int) := ⟨x.elem.toNat, by omega⟩
            rw [hq, Int.toNat_natCast] at hf hcl
            have haq : askT t q = 0 := ask_low HA.out (by omega) (by omega)
            have hls := list_some haq
            have hba : Below wr.heap.size wr (wr.alloc (.cells #[.int .u8 x.kind, .int .i64 x.elem, .int .i64 x.many, .slice pa x.parts.length pc] 43)) := (Below.refl _ _).alloc (Nat.le_refl _) _
            have hbe1 := hbe.trans (hba.mono hbe.size)
            obtain ⟨w2, hw2⟩ : ∃ w2 : World, w2 = wr.alloc (.cells #[.int .u8 x.kind, .int .i64 x.elem, .int .i64 x.many, .slice pa x.parts.length pc] 43) := ⟨_, rfl⟩
            have y1 : w2.cell? ⟨wr.heap.size, 1, none⟩ = some (.int .i64 x.elem) := by rw [hw2]; simp
            rw [← hw2] at hbe1
            have HBE := hid hbe1
            have HSZ := hid (size_calls t _ q w2.drew (HT.out.below hbe1.drew))
            rw [(list_at haq).1, Int.toNat_natCast] at HSZ hls
            have hqk : q < kk := by omega
            have HR2 : Hid (∀ wz, Below w.heap.size w wz → Rel t A w q (cc % (cellsOf t q).length) f wz) := fun wz hb => ⟨hf, haq, Nat.mod_lt _ (by omega), hb⟩
            have hmod := Nat.mod_lt cc (show 0 < (cellsOf t q).length by omega)
            have h100 : (cellsOf t q).length ≤ 1000 := by have := len_fit (ask_fit haq); rw [Int.toNat_natCast] at this; omega
            have hcc9 : cc ≤ 100000 := by omega
            clear hs hm ha hcc hlow h32 HR1 hf HM HA hba hbe1 hma hpa hcl haq HP
            obtain ⟨xk, xe, xm, xp⟩ := x
            simp only at *
            subst h5
            subst hq
            clear HX
            generalize t.length = tn at *
            generalize (cellsOf t q).length = m at *
            generalize xp.length = pl at *
            have hrem := tmod_nat cc m
            have hm0 : ((m : Int) == 0) = false := by simp; omega
            have hm1 : ¬ m = 0 := by omega
            have hwr : IntKind.i64.wrap ((cc % m : Nat) : Int) = ((cc % m : Nat) : Int) := by rw [IntKind.wrap_i64]; omega
            have HREM := hid hrem
            generalize hmd : cc % m = md at *
            have HSY : Hid (w2.drew.cell? ⟨wr.heap.size, 1, none⟩ = some (.int .i64 (q : Int))) := y1
            go_wp2_with fail
            rw [← hw2]
            clear hw2 hpl c0 c1 c2 c3
            generalize wr.heap.size = bs at *
            go_region_held3 (fun w' => w'.cell? ⟨bs, 1, none⟩ = some (.int .i64 (q : Int)))
              (first | exact keep_below hb HSY.out | exact HSY.out) (first | (go_at_call 24; refine HSZ.out.mono ?_; rintro e w3 ⟨rfl, hb⟩))
            all_goals
              have hbe3 := HBE.out.drew.trans (hb.mono HBE.out.drew.size)
              have HR3 := hid (HR2.out w3 hbe3)
              clear hb HR2
              go_wp2
              go_roundg q
              case measure => omega
              case rel => exact ⟨q, md, f, rfl, rfl, by go_num, rfl, HR3.out⟩
    · rw [flatE_out ha hc, if_neg (by decide)]
      clear HT ha
      generalize listT t k = cl at *
      generalize t.length = tn at *
      by_cases h0 : c < 0
      · clear hc
        go_enter Try.func7, Try.ntmps7
        go_wp2_with fail
        go_step3
        go_wp2_with fail
        refine HC.out.mono ?_
        rintro e w1 ⟨cv, rfl, hcv, hb1⟩
        obtain ⟨ca, cc, rfl, _⟩ := ints_slice hcv
        clear hcv HC
        go_wp2
        all_goals (try (exfalso; omega))
        go_ret2
        exact ⟨rfl, hb1⟩
      · have h1 : (cl.length : Int) ≤ c := by omega
        clear hc
        go_enter Try.func7, Try.ntmps7
        go_wp2_with fail
        go_step3
        go_wp2_with fail
        refine HC.out.mono ?_
        rintro e w1 ⟨cv, rfl, hcv, hb1⟩
        obtain ⟨ca, cc, rfl, _⟩ := ints_slice hcv
        clear hcv HC
        go_wp2
        all_goals (try (exfalso; omega))
        go_ret2
        exact ⟨rfl, hb1⟩
  · rw [flatE_err ha, if_neg ha]
    have hne : (askT t k != 0) = true := by simpa using ha
    clear HT ha
    generalize listT t k = cl at *
    generalize askT t k = er at *
    generalize t.length = tn at *
    go_enter Try.func7, Try.ntmps7
    go_wp2_with fail
    go_step3
    go_wp2_with fail
    refine HC.out.mono ?_
    rintro e w1 ⟨cv, rfl, hcv, hb1⟩
    obtain ⟨ca, cc, rfl, _⟩ := ints_slice hcv
    clear hcv HC
    go_wp2
    go_ret2
    exact ⟨rfl, hb1⟩
end Go.Proofs.Ytindpgejnaofkaa.FlG
