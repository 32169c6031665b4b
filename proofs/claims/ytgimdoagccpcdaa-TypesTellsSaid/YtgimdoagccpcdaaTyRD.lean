/- Walks over fescueref03.Ahead and Offset. -/
import Derived.Test.YtgimdoagccpcdaaTyRC
namespace Go.Proofs.Ytgimdoagccpcdaa.TyRD
open Go.RowKit Go.Lib SetP IntO TyM TyP TyB TyC TyD TyE TyS TyF TyH TyRA TyRB TyRC Fresh

theorem fit_lt {t : List Ty} {p : Int} (h : Fit t p) : ∃ q : Nat, p = q ∧ q < t.length := ⟨p.toNat, by have := h.1; omega, by have := h.2.1; have := h.1; omega⟩

set_option maxHeartbeats 1000000 in
theorem ahead_calls (t : List Ty) (v : Value) (k : Nat) (x : Ty) (n : Nat) (w : World) (ht : TysAt w v t) (hx : t[k]? = some x) (hf : ∀ p ∈ partsOf x, Fit t p ∧ p < t.length) (hl : (partsOf x).length ≤ 16) (hn : n < (partsOf x).length) :
    Calls Try.prog 44 #[v, .int .i64 k, .int .i64 n] w (IntR ((cellsAll t ((partsOf x).take n)).length : Nat) w) := by
  have HT := hid ht
  have HF := hid hf
  obtain ⟨to, tcap, rfl⟩ := ht.slice
  obtain ⟨hk, hx'⟩ := List.getElem?_eq_some_iff.1 hx
  have HA := hid (fun wx (hb : Below w.heap.size w wx) => (HT.out.below hb).at k hk)
  rw [hx'] at HA
  have HPO := hid (fun (i : Nat) pv wx hp => partOf_calls x pv i wx hp)
  have HPI := hid (fun i (h : i < (partsOf x).length) => partO_in h)
  have HTK := hid (fun i (h : i < (partsOf x).length) => cellsAll_take t h)
  have HN := hid (fun i => len_fits (t := t) (l := (partsOf x).take i) fun p hp => (hf p (List.mem_of_mem_take hp)).1)
  clear ht hf hx hx'
  generalize partsOf x = l at *
  go_enter Try.func44, Try.ntmps44
  go_wp2
  go_loopg [7, 8] n (fun gk s iv wr => ∃ i : Nat, i + gk = n ∧ iv = .int .i64 i ∧ s = .int .i64 ((cellsAll t (l.take i)).length : Nat) ∧ Below w.heap.size w wr)
  case atStart => exact ⟨0, by omega, rfl, rfl, Below.refl _ _⟩
  case round =>
    obtain ⟨i, hi, rfl, rfl, hbe⟩ := hrel
    have HI := hid hi
    by_cases hlt : i < n
    · have hil : i < l.length := by omega
      have HTI := hid (HTK.out i hil)
      obtain ⟨hfit, _⟩ := HF.out _ (List.getElem_mem hil)
      have hpo := HPI.out i hil
      have hn1 := HN.out i
      rw [List.length_take] at hn1
      have hs1 : (cellsAll t (l.take i)).length ≤ 10000 := by omega
      have hq1 := len_fit hfit
      obtain ⟨tb, off, rfl, hlb, pv, c0, c1, c2, c3, hpv⟩ := HA.out wr hbe
      have HP1 := hid (HPO.out i pv wr hpv)
      rw [hpo] at HP1
      obtain ⟨q, hq, hqt⟩ := fit_lt hfit
      rw [hq] at HP1 HTI hfit hq1
      rw [Int.toNat_natCast] at HTI hq1
      have HC := hid (fun wx (hb : Below w.heap.size w wx) => of_any (q + 1) t _ q wx (HT.out.below hb) (by omega) hfit)
      have HLN : Hid ((cellsAll t (l.take (i + 1))).length = (cellsAll t (l.take i)).length + (cellsOf t q).length) := by show _ = _; rw [HTI.out, List.length_append]
      obtain ⟨pa, pc, rfl, _⟩ := ints_slice hpv
      clear hpv hi hn1 hpo hfit hq HTI
      generalize cellsOf t q = cl at *
      generalize (cellsAll t (l.take i)).length = sm at *
      generalize t.length = tl at *
      go_wp2_with fail
      refine HP1.out.mono ?_
      rintro e w1 ⟨rfl, hb1⟩
      have hbe1 := hbe.trans (hb1.mono hbe.size)
      have HC1 := hid (HC.out w1 hbe1)
      clear hb1 HC HP1
      go_wp2_with fail
      refine HC1.out.mono ?_
      rintro e w2 ⟨u, m, rfl, hu, hb2⟩
      have hbe2 := hbe1.trans (hb2.mono hbe1.size)
      obtain ⟨ua, uc, rfl, _⟩ := ints_slice (intsAt_of_owns hu (by omega))
      clear hb2 hu hbe1
      have HLN2 := hid HLN.out
      generalize cl.length = cn at *
      go_wp2
      go_roundg (gk - 1)
      case measure => have := HI.out; omega
      case rel => exact ⟨i + 1, by have := HI.out; omega, by go_num, by rw [HLN.out]; go_num, hbe2⟩
    · obtain rfl : i = n := by have := HI.out; omega
      clear hi
      go_wp2
      go_ret
      exact ⟨rfl, hbe⟩

set_option maxHeartbeats 400000 in
theorem offsetR_calls (t : List Ty) (v : Value) (k n : Int) (w : World) (ht : TysAt w v t) : Calls Try.prog 25 #[v, .int .i64 k, .int .i64 n] w (IntER (offT t k n) (partE t k n) w) := by
  have HC := hid (partR_calls t v k n w ht)
  have HT := hid ht
  have HO : Hid (offT t k n = if partE t k n = 0 then ((cellsAll t ((partsOf (tyAt t k)).take n.toNat)).length : Int) else 0) := rfl
  obtain ⟨to, tcap, rfl⟩ := ht.slice
  clear ht
  by_cases h0 : partE t k n = 0
  · obtain ⟨ha, hn0, hn1⟩ := partE_zero h0
    rw [HO.out, if_pos h0, h0]
    rw [h0] at HC
    have hfit := parts_fit ha
    have hl16 := parts_len ha
    obtain ⟨_, _, m, x, rfl, hx, _, _⟩ := askT_some ha
    rw [tyAt_some hx] at hfit hl16 hn1 ⊢
    obtain ⟨q, rfl⟩ : ∃ q : Nat, n = q := ⟨n.toNat, by omega⟩
    rw [Int.toNat_natCast]
    have HA := hid (fun wx (hb : Below w.heap.size w wx) => ahead_calls t _ m x q wx (HT.out.below hb) hx hfit hl16 (by omega))
    clear HO h0 ha hx hfit hl16 hn1
    generalize (cellsAll t ((partsOf x).take q)).length = r at *
    generalize partT t m q = pt at *
    generalize t.length = tl at *
    go_enter Try.func25, Try.ntmps25
    go_wp2_with fail
    refine HC.out.mono ?_
    rintro e w1 ⟨rfl, hb1⟩
    have HA1 := hid (HA.out w1 hb1)
    go_wp2_with fail
    refine HA1.out.mono ?_
    rintro e w2 ⟨rfl, hb2⟩
    have hbe := hb1.trans (hb2.mono hb1.size)
    clear hb1 hb2
    go_wp2
    go_ret2
    exact ⟨rfl, hbe⟩
  · rw [(partT_err h0).2]
    have hne : (partE t k n != 0) = true := by simpa using h0
    clear HO
    generalize partE t k n = er at *
    generalize partT t k n = pt at *
    generalize t.length = tl at *
    clear h0
    go_enter Try.func25, Try.ntmps25
    go_wp2_with fail
    refine HC.out.mono ?_
    rintro e w1 ⟨rfl, hb1⟩
    go_wp2
    go_ret2
    exact ⟨rfl, hb1⟩
end Go.Proofs.Ytgimdoagccpcdaa.TyRD
