/- Walk over fescueref03.Great. -/
import Derived.Test.YtimnjkdhcnhkoaaGreatDoorZTyRE
namespace Go.Proofs.YtimnjkdhcnhkoaaGreatDoor.TyRE
open Go.RowKit Go.Lib Go.Shelf SetP IntO TyM TyP TyB TyQ


/-- is a table more than statements go through? -/
def greatB (t : List Ty) : Bool := (t.take 30).any (fun x => decide (20 < x.parts.length)) || decide (20 < t.length)
theorem great_no {t : List Ty} (h : greatB t = false) : t.length ≤ 20 ∧ ∀ x ∈ t, x.parts.length ≤ 20 := by
  unfold greatB at h
  simp only [Bool.or_eq_false_iff, decide_eq_false_iff_not] at h
  obtain ⟨h1, h2⟩ := h
  refine ⟨by omega, fun x hx => ?_⟩
  rw [List.take_of_length_le (by omega)] at h1
  have := List.any_eq_false.1 h1 x hx
  simp only [decide_eq_true_eq] at this
  omega

set_option maxHeartbeats 1000000 in
theorem great_calls (v : Value) (t : List Ty) (w : World) (ht : TysAt w v t) : Calls Tryz.prog 12 #[v] w (BoolR (greatB t) w) := by
  have HT := hid ht
  obtain ⟨ao, cap, rfl⟩ := ht.slice
  have hll : t.length ≤ 9223372036854775807 := by obtain ⟨_, _, _, h, _⟩ := ht; exact h
  clear ht
  have HD : Hid (greatB t = ((t.take 30).any (fun x => decide (20 < x.parts.length)) || decide (20 < t.length))) := rfl
  have HS : Hid (∀ k (hk : k < t.length), ((t.take k).any fun x => decide (20 < x.parts.length)) = false → ¬ 20 < t[k].parts.length → ((t.take (k + 1)).any fun x => decide (20 < x.parts.length)) = false) := fun k hk h h2 => by
    rw [List.take_succ_eq_append_getElem hk, List.any_append, h]
    simp; omega
  have HY : Hid (∀ k (hk : k < t.length), k < 30 → 20 < t[k].parts.length → ((t.take 30).any fun x => decide (20 < x.parts.length)) = true) := fun k hk h30 h => by
    refine List.any_eq_true.2 ⟨t[k], ?_, by simpa using h⟩
    have : (t.take 30)[k]'(by rw [List.length_take]; omega) = t[k] := List.getElem_take
    rw [← this]
    exact List.getElem_mem _
  go_enter Tryz.func12, Tryz.ntmps12
  go_wp2
  go_loop [3] (fun i => ∃ k : Nat, k ≤ t.length ∧ k ≤ 30 ∧ i = .int .i64 k ∧ ((t.take k).any fun x => decide (20 < x.parts.length)) = false) (fun i => 30 - (intOf i).toNat)
  case atStart => exact ⟨0, by omega, by omega, rfl, rfl⟩
  case round =>
    obtain ⟨k, hk, hk30, rfl, hno⟩ := hrel
    have HN := hid hno
    clear hno
    by_cases hlt : k < t.length
    · by_cases h30 : k < 30
      · obtain ⟨tb, off, rfl, _, pv, c0, c1, c2, c3, hp⟩ := HT.out.at k hlt
        have HS2 := hid (HS.out k hlt HN.out)
        have HY2 := hid (HY.out k hlt h30)
        obtain ⟨pa, pc, rfl, hpl⟩ := ints_slice hp
        clear hp
        generalize t[k] = x at *
        generalize x.parts.length = pn at *
        have hi : (k : Int) < 30 := by omega
        by_cases hbig : 20 < pn
        · have hb : (20 : Int) < pn := by omega
          have HE := hid (HY2.out hbig)
          clear hbig
          go_wp2
          all_goals (try (exfalso; omega))
          go_ret
          exact ⟨by rw [HD.out, HE.out]; rfl, Below.refl _ _⟩
        · have hb : ¬ (20 : Int) < pn := by omega
          have HE := hid (HS2.out hbig)
          clear hbig
          go_wp2
          all_goals (try (exfalso; omega))
          go_round
          case rel => exact ⟨k + 1, by omega, by omega, by go_num, HE.out⟩
          case measure => simp [intOf]; omega
      · have hge : (30 : Int) ≤ k := by omega
        have hi : ¬ (k : Int) < 30 := by omega
        have hbig : (20 : Int) < t.length := by omega
        have HB : Hid (greatB t = true) := by
          show _ = _
          rw [HD.out]
          simp; right; omega
        go_wp2
        all_goals (try (exfalso; omega))
        go_ret
        exact ⟨by rw [HB.out]; rfl, Below.refl _ _⟩
    · obtain rfl : k = t.length := by omega
      have HB : Hid (greatB t = decide ((20 : Int) < t.length)) := by
        show _ = _
        rw [HD.out]
        have := HN.out
        rw [List.take_length] at this
        rw [List.take_of_length_le hk30, this, Bool.false_or]
        simp
        first | rfl | (constructor <;> intro h <;> omega)
      clear HS HY HD HN HT
      generalize t.length = n at *
      go_wp2
      all_goals (try (exfalso; omega))
      all_goals
        go_ret
        refine ⟨?_, Below.refl _ _⟩
        rw [HB.out]
        first | rfl | (congr 2; simp; omega)
end Go.Proofs.YtimnjkdhcnhkoaaGreatDoor.TyRE
