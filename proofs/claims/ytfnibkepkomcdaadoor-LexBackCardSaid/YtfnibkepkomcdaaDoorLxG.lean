/- Walk over fescueref05.Great: what is not great is small. -/
import Derived.Test.YtfnibkepkomcdaaDoorLxS
namespace Go.Proofs.YtfnibkepkomcdaaDoor.LxG
open Go.RowKit Go.Lib LxM LxP LxK LxJ LxS

def gL (x : List ByteArray) : Nat := (x.map fun y => 1 + min y.size 100000).sum
def gT (l : List (List ByteArray)) : Nat := (l.map fun x => 1 + gL x).sum
theorem gL_snoc {x : List ByteArray} {k : Nat} (h : k < x.length) : gL (x.take (k + 1)) = gL (x.take k) + (1 + min x[k].size 100000) := by
  unfold gL
  rw [List.take_succ_eq_append_getElem h, List.map_append, List.sum_append]
  simp only [List.map_cons, List.map_nil, List.sum_cons, List.sum_nil, Nat.add_zero]
theorem gT_snoc {l : List (List ByteArray)} {k : Nat} (h : k < l.length) : gT (l.take (k + 1)) = gT (l.take k) + (1 + gL l[k]) := by
  unfold gT
  rw [List.take_succ_eq_append_getElem h, List.map_append, List.sum_append]
  simp only [List.map_cons, List.map_nil, List.sum_cons, List.sum_nil, Nat.add_zero]
theorem gL_le : ∀ (x : List ByteArray), gL x ≤ x.length * 100001
  | [] => by simp [gL]
  | y :: x => by
    have := gL_le x
    have e : gL (y :: x) = 1 + min y.size 100000 + gL x := by simp [gL]
    rw [e, List.length_cons]; omega
/-- not great -/
def Small (l : List (List ByteArray)) (most : Nat) : Prop := l.length ≤ 2000 ∧ (∀ x ∈ l, x.length ≤ 80) ∧ gT l ≤ most
def GreatR (l : List (List ByteArray)) (most : Nat) (w : World) (e : Ending) (w' : World) : Prop := ∃ g : Bool, e = .returned (.bool g) ∧ (g = false → Small l most) ∧ Below w.heap.size w w'

set_option maxRecDepth 100000 in
set_option maxHeartbeats 4000000 in
theorem great_calls (va : Value) (l : List (List ByteArray)) (most : Nat) (hmost : most ≤ 100000) (w : World) (ha : LinesAt w va l) :
    Calls Tryd.prog 18 #[va, .int .i64 most] w (GreatR l most w) := by
  have HA := hid ha
  obtain ⟨ao, ac, rfl, hla⟩ := ha.slice
  clear ha
  go_enter Tryd.func18, Tryd.ntmps18
  go_wp2
  go_loopg [5, 6, 7] l.length (fun gk nv iv _kv wr => ∃ i : Nat, i + gk = l.length ∧ i ≤ 2100 ∧ iv = .int .i64 i ∧ nv = .int .i64 (gT (l.take i) : Nat) ∧ Hid (∀ x ∈ l.take i, x.length ≤ 80) ∧ gT (l.take i) ≤ most ∧ Below w.heap.size w wr)
  case atStart => exact ⟨0, by omega, by omega, rfl, by simp [gT], (fun x hx => by simp at hx), by simp [gT], Below.refl _ _⟩
  case round =>
    obtain ⟨i, hi, hi2, rfl, rfl, HS, hgm, hbe⟩ := hrel
    have HI := hid hi
    by_cases hlt : i < l.length
    · by_cases hlt2 : i < 2100
      · obtain ⟨b, o, pv, rfl, hb0, hc, hp⟩ := (HA.out.below hbe).at i hlt
        have HSN := hid (gT_snoc hlt)
        have HSX : Hid (l[i].length ≤ 80 → ∀ x ∈ l.take (i + 1), x.length ≤ 80) := fun h x hx => by
          rw [List.take_succ_eq_append_getElem hlt] at hx
          rcases List.mem_append.1 hx with hx | hx
          · exact HS.out x hx
          · rw [List.mem_singleton.1 hx]; exact h
        generalize l[i] = x at *
        have HP := hid hp
        obtain ⟨pa, pc, rfl, hpl⟩ := hp.slice
        generalize gT (l.take i) = n at *
        clear hp hi
        by_cases h80 : 80 < x.length
        · clear HP
          generalize x.length = m at *
          go_wp2
          go_ret
          exact ⟨true, rfl, (fun h => by cases h), hbe⟩
        · have HC := hid hc
          have hgl : ∀ k, gL (x.take k) ≤ 8000080 := fun k => by
            have h1 := gL_le (x.take k)
            rw [List.length_take] at h1
            omega
          have HGL := hid hgl
          clear hgl
          go_wp2
          obtain ⟨wo, hwo⟩ : ∃ wo : World, wo = wr := ⟨wr, rfl⟩
          subst hwo
          obtain ⟨go, hgo⟩ : ∃ go : Nat, go = gk := ⟨gk, rfl⟩
          subst hgo
          clear hc
          go_loopg [5, 7] x.length (fun gk nv jv wr => ∃ j : Nat, j + gk = x.length ∧ jv = .int .i64 j ∧ nv = .int .i64 ((n + 1 + gL (x.take j) : Nat) : Int) ∧ Below wo.heap.size wo wr)
          case atStart => exact ⟨0, by omega, rfl, by simp [gL], Below.refl _ _⟩
          case round =>
            obtain ⟨j, hj, rfl, rfl, hbj⟩ := hrel
            have HJ := hid hj
            have hc := (hbj.cell (p := ⟨b, _, none⟩) hb0).trans HC.out
            have hg1 := HGL.out j
            by_cases hjl : j < x.length
            · obtain ⟨xb, xo, rfl, _, cx⟩ := (HP.out.below hbj).at j hjl
              have HG := hid (gL_snoc hjl)
              generalize x[j] = y at *
              generalize gL (x.take j) = g at *
              clear hj
              go_wp2
              go_roundg (gk - 1)
              case measure => have := HJ.out; omega
              case rel => exact ⟨j + 1, by have := HJ.out; omega, by go_num, by rw [HG.out]; go_num, hbj⟩
            · obtain rfl : j = x.length := by omega
              rw [List.take_length] at hg1 ⊢
              have hbb := hbe.trans (hbj.mono hbe.size)
              generalize gL x = g at *
              clear hj
              by_cases hmg : most < n + 1 + g
              · go_wp2
                go_ret
                exact ⟨true, rfl, (fun h => by cases h), hbb⟩
              · go_wp2
                go_roundg (go - 1)
                case measure => have := HI.out; omega
                case rel => exact ⟨i + 1, by have := HI.out; omega, by omega, by go_num, by rw [HSN.out]; go_num, hid (HSX.out (by omega)), by rw [HSN.out]; omega, hbb⟩
      · have h2 : i = 2100 := by omega
        subst h2
        have hlt2k : (2000 : Int) < (l.length : Int) := by omega
        clear hi
        generalize l.length = n at *
        go_wp2
        go_ret
        exact ⟨true, by simp, (fun h => by cases h), hbe⟩
    · obtain rfl : i = l.length := by omega
      rw [List.take_length] at hgm HS ⊢
      clear hi
      have HF : Hid (l.length ≤ 2000 → Small l most) := fun h => ⟨h, HS.out, hgm⟩
      clear hgm HS
      generalize gT l = g at *
      generalize l.length = n at *
      go_wp2
      go_ret
      refine ⟨_, rfl, fun h => HF.out ?_, hbe⟩
      simp at h
      omega
end Go.Proofs.YtfnibkepkomcdaaDoor.LxG
