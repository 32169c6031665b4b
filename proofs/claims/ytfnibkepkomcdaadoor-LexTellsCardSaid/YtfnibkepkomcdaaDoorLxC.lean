/- Walk over fescueref05.cut: what stands between a byte. -/
import Derived.Test.YtfnibkepkomcdaaDoorLxJ
import Derived.Deep.LoopGhost
namespace Go.Proofs.YtfnibkepkomcdaaDoor.LxC
open Go.RowKit Go.Lib LxM LxP LxK LxJ

/-- words in a row that the call owns -/
def StrsR (l : List Word) (w : World) (e : Ending) (w' : World) : Prop :=
  ∃ u, e = .returned u ∧ w'.ownsRow w.heap.size 9 1 u l.length (strs (mkW l)) ∧ Below w.heap.size w w'

/-- the words that are cut off, and where the next one begins -/
def CutI (s : ByteArray) (b : Nat) (k f : Nat) (n : Nat) (xs : List Value) : Prop :=
  k ≤ s.size ∧ f ≤ k ∧ n = (cutP b ((un s).take k)).1.length ∧ xs = strs (mkW (cutP b ((un s).take k)).1) ∧ (cutP b ((un s).take k)).2 = ((un s).drop f).take (k - f)
theorem CutI.start (s : ByteArray) (b : Nat) : CutI s b 0 0 0 [] := ⟨Nat.zero_le _, Nat.le_refl _, rfl, rfl, rfl⟩
theorem ext_mk (s : ByteArray) (f k : Nat) : s.extract f k = mk (((un s).drop f).take (k - f)) := Lib.extract_eq s f k
theorem cut_next {s : ByteArray} {k b : Nat} (h : k < s.size) : cutP b ((un s).take (k + 1)) = cstep b (cutP b ((un s).take k)) s[k] := by
  obtain ⟨h2, e⟩ := at_byte h
  rw [List.take_succ_eq_append_getElem h2, cutP_snoc, e]
theorem CutI.hit {s : ByteArray} {b k f n : Nat} {xs : List Value} (h : CutI s b k f n xs) (hk : k < s.size) (hb : s[k].toNat = b) : CutI s b (k + 1) (k + 1) (n + 1) (xs ++ [.string (s.extract f k)]) := by
  obtain ⟨h1, h2, h3, h4, h5⟩ := h
  have e : cutP b ((un s).take (k + 1)) = ((cutP b ((un s).take k)).1 ++ [(cutP b ((un s).take k)).2], []) := by
    rw [cut_next hk]; unfold cstep; rw [if_pos hb]
  refine ⟨by omega, Nat.le_refl _, ?_, ?_, ?_⟩ <;> rw [e]
  · simp [h3]
  · rw [h4, h5, ext_mk]; simp
  · simp
theorem CutI.miss {s : ByteArray} {b k f n : Nat} {xs : List Value} (h : CutI s b k f n xs) (hk : k < s.size) (hb : s[k].toNat ≠ b) : CutI s b (k + 1) f n xs := by
  obtain ⟨h1, h2, h3, h4, h5⟩ := h
  obtain ⟨h2', e2⟩ := at_byte hk
  have e : cutP b ((un s).take (k + 1)) = ((cutP b ((un s).take k)).1, (cutP b ((un s).take k)).2 ++ [s[k]]) := by
    rw [cut_next hk]; unfold cstep; rw [if_neg hb]
  refine ⟨by omega, by omega, ?_, ?_, ?_⟩ <;> rw [e]
  · exact h3
  · exact h4
  · have e3 : f + (k - f) = k := by omega
    rw [h5, show k + 1 - f = (k - f) + 1 by omega, List.take_succ_eq_append_getElem (by rw [List.length_drop, un_len]; omega), List.getElem_drop]
    simp only [e3, e2]
theorem CutI.end {s : ByteArray} {b f n : Nat} {xs : List Value} (h : CutI s b s.size f n xs) : n + 1 = (cutS b (un s)).length ∧ xs ++ [.string (s.extract f s.size)] = strs (mkW (cutS b (un s))) := by
  obtain ⟨h1, h2, h3, h4, h5⟩ := h
  rw [List.take_of_length_le (by rw [un_len]; exact Nat.le_refl _)] at h3 h4 h5
  unfold cutS
  rw [h3, h4, h5, ext_mk]
  simp
theorem CutI.le {s : ByteArray} {b k f n : Nat} {xs : List Value} (h : CutI s b k f n xs) : n ≤ k := by
  have H : ∀ l : List UInt8, (cutP b l).1.length ≤ l.length := by
    refine snoc_ind (by simp [cutP]) fun l c ih => ?_
    rw [cutP_snoc, List.length_append]
    unfold cstep
    split
    · simp; omega
    · simp; omega
  have := H ((un s).take k)
  rw [List.length_take] at this
  rw [h.2.2.1]; omega

set_option maxHeartbeats 1000000 in
theorem cut_calls (s : ByteArray) (hs : s.size ≤ 16384) (b : Nat) (w : World) :
    Calls Tryd.prog 25 #[.string s, .int .u8 b] w (StrsR (cutS b (un s)) w) := by
  go_enter Tryd.func25, Tryd.ntmps25
  go_wp2
  go_loopg [5, 6, 7] s.size (fun gk u fv iv wr => ∃ (k f n : Nat) (xs : List Value), k + gk = s.size ∧ iv = .int .i64 k ∧ fv = .int .i64 f ∧ Hid (CutI s b k f n xs) ∧ Hid (wr.ownsRow w.heap.size 9 1 u n xs) ∧ Below w.heap.size w wr)
  case atStart => exact ⟨0, 0, 0, [], by omega, rfl, rfl, CutI.start s b, World.ownsRow_nil _ _ _ _, Below.refl _ _⟩
  case round =>
    obtain ⟨k, f, n, xs, hk, rfl, rfl, HI, HO, hbe⟩ := hrel
    have HK := hid hk
    have hfk := HI.out.2.1
    have hnk := HI.out.le
    by_cases hlt : k < s.size
    · have h255 := u8_le s[k]
      clear hk
      by_cases hc : s[k].toNat = b
      · have HN := hid (HI.out.hit hlt hc)
        have hcc : ((s[k].toNat : Int) == (b : Int)) = true := by simp; omega
        have hO1 : Hid ((wr.alloc (.cells #[.string (s.extract f k)] 9)).ownsRow w.heap.size 9 1 u5 n xs) := HO.out.alloc _
        have HCE : Hid ((wr.alloc (.cells #[.string (s.extract f k)] 9)).cell? ⟨wr.heap.size, 0, none⟩ = some (.string (s.extract f k))) := by show _ = _; simp
        have hltw : wr.heap.size < (wr.alloc (.cells #[.string (s.extract f k)] 9)).heap.size := by simp
        have HB1 := hid (hbe.alloc hbe.size (.cells #[.string (s.extract f k)] 9))
        have hsz := HB1.out.size
        clear hc
        go_wp2_with (at_builtin; refine wpList_append_one rfl (.tmp 19) (.tmp 24) elemS rfl w.heap.size u5 rfl n xs hO1.out (by omega) wr.heap.size (.string (s.extract f k)) rfl HCE.out hltw rfl hsz ?_)
        intro v2 w2 hown2 hgr
        have HO2 := hid hown2
        have HB2 := hid (own_grown HB1.out hO1.out hgr hsz)
        clear hown2 hgr hO1 HCE HB1
        go_wp2
        go_roundg (gk - 1)
        case measure => have := HK.out; omega
        case rel => exact ⟨k + 1, k + 1, n + 1, _, by have := HK.out; omega, by go_num, by go_num, HN, HO2, HB2.out⟩
      · have HN := hid (HI.out.miss hlt hc)
        have hcc : ((s[k].toNat : Int) == (b : Int)) = false := by simp; omega
        clear hc
        go_wp2
        go_roundg (gk - 1)
        case measure => have := HK.out; omega
        case rel => exact ⟨k + 1, f, n, xs, by have := HK.out; omega, by go_num, rfl, HN, HO, hbe⟩
    · obtain rfl : k = s.size := by omega
      have HE := hid HI.out.end
      have hO1 : Hid ((wr.alloc (.cells #[.string (s.extract f s.size)] 9)).ownsRow w.heap.size 9 1 u5 n xs) := HO.out.alloc _
      have HCE : Hid ((wr.alloc (.cells #[.string (s.extract f s.size)] 9)).cell? ⟨wr.heap.size, 0, none⟩ = some (.string (s.extract f s.size))) := by show _ = _; simp
      have hltw : wr.heap.size < (wr.alloc (.cells #[.string (s.extract f s.size)] 9)).heap.size := by simp
      have HB1 := hid (hbe.alloc hbe.size (.cells #[.string (s.extract f s.size)] 9))
      have hsz := HB1.out.size
      clear hk hlt
      go_wp2_with (at_builtin; refine wpList_append_one rfl (.tmp 28) (.tmp 32) elemS rfl w.heap.size u5 rfl n xs hO1.out (by omega) wr.heap.size (.string (s.extract f s.size)) rfl HCE.out hltw rfl hsz ?_)
      intro v2 w2 hown2 hgr
      rw [HE.out.2, HE.out.1] at hown2
      have HO2 := hid hown2
      have HB2 := hid (own_grown HB1.out hO1.out hgr hsz)
      clear hown2 hgr hO1 HCE HB1
      go_wp2
      go_ret
      exact ⟨_, rfl, HO2.out, HB2.out⟩
end Go.Proofs.YtfnibkepkomcdaaDoor.LxC
