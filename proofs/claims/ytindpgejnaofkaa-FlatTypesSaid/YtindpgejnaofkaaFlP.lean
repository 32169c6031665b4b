/- Walks over flat.sum, flat.many$1, flat.each and flat.walk.of at int, and flat.many. -/
import Derived.Test.YtindpgejnaofkaaFlM
import Derived.Test.YtindpgejnaofkaaTyK
import Derived.Test.YtindpgejnaofkaaTyTP
import Derived.Deep.RegionHeld3
namespace Go.Proofs.Ytindpgejnaofkaa.FlP
open Go.RowKit Go.Lib Go.Shelf SetP IntO TyM TyP TyB TyC TyD TyE TyS TyF TyH TyK TyRT FlM Fresh

theorem sum_take {l : List Int} {k : Nat} (h : k < l.length) : (l.take (k + 1)).sum = (l.take k).sum + l[k] := by
  rw [List.take_succ_eq_append_getElem h, List.sum_append]; simp
theorem sum_bound : ∀ (l : List Int), (∀ x ∈ l, 0 ≤ x ∧ x ≤ 1000) → 0 ≤ l.sum ∧ l.sum ≤ 1000 * l.length
  | [], _ => by simp
  | x :: l, h => by
    have := sum_bound l fun y hy => h y (by simp [hy])
    have := h x (by simp)
    rw [List.sum_cons, List.length_cons]
    omega

set_option maxHeartbeats 1000000 in
theorem sum_calls (va : Value) (l : List Int) (w : World) (hl : IntsAt w va l) (hn : ∀ x ∈ l, 0 ≤ x ∧ x ≤ 1000) (hlen : l.length ≤ 1000) :
    Calls Try.prog 40 #[va] w (IntR l.sum w) := by
  have HL := hid hl
  have HN := hid (fun k => sum_bound (l.take k) fun x hx => hn x (List.mem_of_mem_take hx))
  have HX := hid hn
  obtain ⟨ao, cap, rfl, hll⟩ := ints_slice hl
  clear hl hn
  go_enter Try.func40, Try.ntmps40
  go_wp2
  go_loopg [3, 8] l.length (fun gk m i wr => ∃ k : Nat, k + gk = l.length ∧ i = .int .i64 k ∧ m = .int .i64 (l.take k).sum ∧ Below w.heap.size w wr)
  case atStart => exact ⟨0, by omega, rfl, by simp, Below.refl _ _⟩
  case round =>
    obtain ⟨k, hk, rfl, rfl, hbe⟩ := hrel
    have HK := hid hk
    by_cases hlt : k < l.length
    · obtain ⟨b, off, rfl, hbs, hc⟩ := ints_at (HL.out.below hbe) k hlt
      have hx := HX.out _ (List.getElem_mem hlt)
      have HS := hid (sum_take hlt)
      obtain ⟨h1, h2⟩ := HN.out k
      rw [List.length_take] at h2
      have h3 : (l.take k).sum ≤ 1000000 := by omega
      clear hk h2
      generalize l[k] = p at *
      generalize (l.take k).sum = s at *
      go_wp2
      go_roundg (gk - 1)
      case measure => have := HK.out; omega
      case rel => exact ⟨k + 1, by have := HK.out; omega, by go_num, by rw [HS.out], hbe⟩
    · obtain rfl : k = l.length := by omega
      rw [List.take_length]
      go_wp2
      go_ret
      exact ⟨rfl, hbe⟩

theorem one_calls (k : Int) (w : World) : Calls Try.prog 39 #[.int .i64 k] w fun e w' => e = .returned (.int .i64 1) ∧ w = w' := by
  go_enter Try.func39, Try.ntmps39
  go_wp2
  go_ret
  exact ⟨rfl, rfl⟩

/-- the walk that counts -/
abbrev manyV (tv : Value) : Value := .agg #[tv, .func (.func 39) #[] #[], .func (.func 40) #[] #[]]

set_option maxHeartbeats 1000000 in
theorem eachI_calls (tv : Value) (va : Value) (l : List Int) (g : Int → Int) (w : World) (hl : IntsAt w va l) (hlen : l.length ≤ 1000)
    (hof : ∀ p ∈ l, ∀ wx, Below w.heap.size w wx → Calls Try.prog 42 #[manyV tv, .int .i64 p] wx (IntR (g p) wx)) :
    Calls Try.prog 41 #[va, .func (.func 42) #[manyV tv] #[]] w (OwnI (l.map g) w) := by
  obtain ⟨i0, hi, hz0, hz1, hz2⟩ := info_parts info_int
  have HL := hid hl
  have HOF := hid hof
  obtain ⟨ao, cap, rfl, hll⟩ := ints_slice hl
  clear hl hof
  obtain ⟨mc, HM⟩ : ∃ mc : List Value, Hid (mc.length = l.length ∧ ∀ wx : World, (Instr.makeSlice 27 (.int .i64 0) (.int .i64 (l.length : Int))).run Try.prog wx = .ok (.slice (some ⟨wx.heap.size, 0, none⟩) 0 l.length) (wx.alloc (.cells mc.toArray 3))) := by
    refine ⟨(madeCells (Value.int .i64 0).cells l.length).toList, by rw [Array.length_toList, size_madeCells], fun wx => ?_⟩
    have := run_make (P := Try.prog) wx 27 3 i0 (.int .i64 0) Try.underlying27 hi hz0 .i64 .i64 0 l.length (by omega) (by omega) (by rw [hz2]; omega) (by omega)
    rw [hz1, Int.toNat_natCast, Nat.mul_one] at this
    rw [Array.toArray_toList]
    exact this
  have hmk := HM.out.2
  have HOWN := hid (World.ownsRow_made (base := w.heap.size) (e := 3) (size := 1) w mc.toArray l.length (Nat.le_refl _) (by unfold maxLen; omega) (by simpa using HM.out.1))
  go_enter Try.func41, Try.ntmps41
  go_wp2
  go_loopg [5, 13] l.length (fun gk u i wr => ∃ k : Nat, k + gk = l.length ∧ i = .int .i64 k ∧ wr.ownsRow w.heap.size 3 1 u k (intVals ((l.map g).take k)) ∧ Below w.heap.size w wr)
  case atStart => exact ⟨0, by omega, rfl, HOWN.out, (Below.refl _ _).alloc (Nat.le_refl _) _⟩
  case round =>
    obtain ⟨k, hk, rfl, hown, hbe⟩ := hrel
    have HK := hid hk
    have HO := hid hown
    clear hown hmk
    by_cases hlt : k < l.length
    · obtain ⟨b, off, rfl, hbs, hc⟩ := ints_at (HL.out.below hbe) k hlt
      have HC := hid (HOF.out _ (List.getElem_mem hlt) wr hbe)
      have HT : Hid ((l.map g).take (k + 1) = (l.map g).take k ++ [g l[k]]) := by show _ = _; rw [List.take_succ_eq_append_getElem (by simpa using hlt), List.getElem_map]
      clear hk
      generalize l[k] = p at *
      generalize g p = q at *
      go_wp2_with fail
      refine HC.out.mono ?_
      rintro e w1 ⟨rfl, hb1⟩
      have hbe1 := hbe.trans (hb1.mono hbe.size)
      have ho1 := (ownsRow_below HO.out hb1).alloc (.cells #[.int .i64 q] 3)
      have HO1 := hid ho1
      have hb2 := hbe1.alloc hbe1.size (.cells #[.int .i64 q] 3)
      have hsz : w.heap.size ≤ (w1.alloc (.cells #[.int .i64 q] 3)).heap.size := hb2.size
      have HB2 := hid hb2
      have HIN := hid (ints_one (w := w1.alloc (.cells #[.int .i64 q] 3)) (b := w1.heap.size) (n := q) (by simp) (by simp))
      clear ho1 hb1 hb2 HC HO
      go_wp2_with (at_builtin; refine wpList_append_ints rfl (.tmp 17) (.tmp 21) rfl w.heap.size _ rfl k _ HO1.out (by omega) (.slice (some ⟨w1.heap.size, 0, none⟩) 1 1) [q] rfl HIN.out (by simp) hsz ?_)
      intro v' w2 hown2 hgr
      have hbe2 := hid (own_grown HB2.out HO1.out hgr hsz)
      have HO2 := hid hown2
      clear hown2 hgr HO1 HIN
      go_wp2
      go_roundg (gk - 1)
      case measure => have := HK.out; omega
      case rel => exact ⟨k + 1, by have := HK.out; omega, by go_num, by rw [HT.out, intVals_append]; exact HO2.out, hbe2.out⟩
    · obtain rfl : k = l.length := by omega
      rw [List.take_of_length_le (by simp)] at HO
      clear hk
      generalize l.length = n at *
      go_wp2
      go_ret
      exact ⟨_, _, rfl, HO.out, hbe⟩
end Go.Proofs.Ytindpgejnaofkaa.FlP
