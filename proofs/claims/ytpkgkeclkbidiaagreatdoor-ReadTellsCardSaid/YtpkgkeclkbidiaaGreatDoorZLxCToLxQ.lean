/- Walk over fescueref05.cut: what stands between a byte. Walk over fescueref05.wordsOf: a line's words. Walk over fescueref05.Lines. -/
import Derived.Test.YtpkgkeclkbidiaaGreatDoorZLxKToLxL
import Derived.Deep.LoopGhost
import Derived.Laws.IdiomStrings
namespace Go.Proofs.YtpkgkeclkbidiaaGreatDoor.LxC
open Go.RowKit Go.Lib LxM LxP LxK LxJ

/-- words in a row that the call owns -/
def StrsR (l : List Word) (w : World) (e : Ending) (w' : World) : Prop :=
 ∃ u, e = .returned u ∧ w'.ownsRow w.heap.size 9 1 u l.length (strs (mkW l)) ∧ Below w.heap.size w w'

/-- the words that are cut off, and where the next one begins -/
def CutI (s : ByteArray) (b : Nat) (k f : Nat) (n : Nat) (xs : List Value) : Prop :=
 k ≤ s.size ∧ f ≤ k ∧ n = (cutP b ((un s).take k)).1.length ∧ xs = strs (mkW (cutP b ((un s).take k)).1) ∧ (cutP b ((un s).take k)).2 = ((un s).drop f).take (k - f)
theorem CutI.start (s : ByteArray) (b : Nat) : CutI s b 0 0 0 [] := ⟨Nat.zero_le _, Nat.le_refl _, rfl, rfl, rfl⟩
theorem ext_mk (s : ByteArray) (f k : Nat) : s.extract f k = mk (((un s).drop f).take (k - f)) := Lib.extract_eq s f k
theorem cut_next {s : ByteArray} {k b : Nat} (h : k < s.size) : cutP b ((un s).take (k + 1)) = cstep b (cutP b ((un s).take k)) s[k] := by
 obtain ⟨h2, e⟩ := at_byte h
 rw [List.take_succ_eq_append_getElem h2, cutP_snoc, e]
theorem CutI.hit {s : ByteArray} {b k f n : Nat} {xs : List Value} (h : CutI s b k f n xs) (hk : k < s.size) (hb : s[k].toNat = b) : CutI s b (k + 1) (k + 1) (n + 1) (xs ++ [.string (s.extract f k)]) := by
 obtain ⟨h1, h2, h3, h4, h5⟩ := h
 have e : cutP b ((un s).take (k + 1)) = ((cutP b ((un s).take k)).1 ++ [(cutP b ((un s).take k)).2], []) := by
  rw [cut_next hk]; unfold cstep; rw [if_pos hb]
 refine ⟨by omega, Nat.le_refl _, ?_, ?_, ?_⟩ <;> rw [e]
 ·simp [h3]
 ·rw [h4, h5, ext_mk]; simp
 ·simp
theorem CutI.miss {s : ByteArray} {b k f n : Nat} {xs : List Value} (h : CutI s b k f n xs) (hk : k < s.size) (hb : s[k].toNat ≠ b) : CutI s b (k + 1) f n xs := by
 obtain ⟨h1, h2, h3, h4, h5⟩ := h
 obtain ⟨h2', e2⟩ := at_byte hk
 have e : cutP b ((un s).take (k + 1)) = ((cutP b ((un s).take k)).1, (cutP b ((un s).take k)).2 ++ [s[k]]) := by
  rw [cut_next hk]; unfold cstep; rw [if_neg hb]
 refine ⟨by omega, by omega, ?_, ?_, ?_⟩ <;> rw [e]
 ·exact h3
 ·exact h4
 ·have e3 : f + (k - f) = k := by omega
  rw [h5, show k + 1 - f = (k - f) + 1 by omega, List.take_succ_eq_append_getElem (by rw [List.length_drop, un_len]; omega), List.getElem_drop]
  simp only [e3, e2]
theorem CutI.end {s : ByteArray} {b f n : Nat} {xs : List Value} (h : CutI s b s.size f n xs) : n + 1 = (cutS b (un s)).length ∧ xs ++ [.string (s.extract f s.size)] = strs (mkW (cutS b (un s))) := by
 obtain ⟨h1, h2, h3, h4, h5⟩ := h
 rw [List.take_of_length_le (by rw [un_len]; exact Nat.le_refl _)] at h3 h4 h5
 unfold cutS
 rw [h3, h4, h5, ext_mk]
 simp
theorem CutI.le {s : ByteArray} {b k f n : Nat} {xs : List Value} (h : CutI s b k f n xs) : n ≤ k := by
 have H : ∀ l : List UInt8, (cutP b l).1.length ≤ l.length := by
  refine snoc_ind (by simp [cutP]) fun l c ih => ?_
  rw [cutP_snoc, List.length_append]
  unfold cstep
  split
  ·simp; omega
  ·simp; omega
 have := H ((un s).take k)
 rw [List.length_take] at this
 rw [h.2.2.1]; omega

set_option maxHeartbeats 1000000 in
theorem cut_calls (s : ByteArray) (hs : s.size ≤ 16384) (b : Nat) (w : World) :
  Calls Tryz.prog 25 #[.string s, .int .u8 b] w (StrsR (cutS b (un s)) w) := by
 go_enter Tryz.func25, Tryz.ntmps25
 go_wp2
 go_loopg [5, 6, 7] s.size (fun gk u fv iv wr => ∃ (k f n : Nat) (xs : List Value), k + gk = s.size ∧ iv = .int .i64 k ∧ fv = .int .i64 f ∧ Hid (CutI s b k f n xs) ∧ Hid (wr.ownsRow w.heap.size 9 1 u n xs) ∧ Below w.heap.size w wr)
 case atStart => exact ⟨0, 0, 0, [], by omega, rfl, rfl, CutI.start s b, World.ownsRow_nil _ _ _ _, Below.refl _ _⟩
 case round =>
  obtain ⟨k, f, n, xs, hk, rfl, rfl, HI, HO, hbe⟩ := hrel
  have HK := hid hk
  have hfk := HI.out.2.1
  have hnk := HI.out.le
  by_cases hlt : k < s.size
  ·have h255 := u8_le s[k]
   clear hk
   by_cases hc : s[k].toNat = b
   ·have HN := hid (HI.out.hit hlt hc)
    have hcc : ((s[k].toNat : Int) == (b : Int)) = true := by simp; omega
    have hO1 : Hid ((wr.alloc (.cells #[.string (s.extract f k)] 9)).ownsRow w.heap.size 9 1 u5 n xs) := HO.out.alloc _
    have HCE : Hid ((wr.alloc (.cells #[.string (s.extract f k)] 9)).cell? ⟨wr.heap.size, 0, none⟩ = some (.string (s.extract f k))) := by show _ = _; simp
    have hltw : wr.heap.size < (wr.alloc (.cells #[.string (s.extract f k)] 9)).heap.size := by simp
    have HB1 := hid (hbe.alloc hbe.size (.cells #[.string (s.extract f k)] 9))
    have hsz := HB1.out.size
    clear hc
    go_wp2_with (at_builtin; refine wpList_append_one rfl (.tmp 19) (.tmp 24) elemS rfl w.heap.size u5 rfl n xs hO1.out (by omega) wr.heap.size (.string (s.extract f k)) rfl HCE.out hltw rfl hsz ?_)
    intro v2 w2 hown2 hgr
    have HO2 := hid hown2
    have HB2 := hid (own_grown HB1.out hO1.out hgr hsz)
    clear hown2 hgr hO1 HCE HB1
    go_wp2
    go_roundg (gk - 1)
    case measure => have := HK.out; omega
    case rel => exact ⟨k + 1, k + 1, n + 1, _, by have := HK.out; omega, by go_num, by go_num, HN, HO2, HB2.out⟩
   ·have HN := hid (HI.out.miss hlt hc)
    have hcc : ((s[k].toNat : Int) == (b : Int)) = false := by simp; omega
    clear hc
    go_wp2
    go_roundg (gk - 1)
    case measure => have := HK.out; omega
    case rel => exact ⟨k + 1, f, n, xs, by have := HK.out; omega, by go_num, rfl, HN, HO, hbe⟩
  ·obtain rfl : k = s.size := by omega
   have HE := hid HI.out.end
   have hO1 : Hid ((wr.alloc (.cells #[.string (s.extract f s.size)] 9)).ownsRow w.heap.size 9 1 u5 n xs) := HO.out.alloc _
   have HCE : Hid ((wr.alloc (.cells #[.string (s.extract f s.size)] 9)).cell? ⟨wr.heap.size, 0, none⟩ = some (.string (s.extract f s.size))) := by show _ = _; simp
   have hltw : wr.heap.size < (wr.alloc (.cells #[.string (s.extract f s.size)] 9)).heap.size := by simp
   have HB1 := hid (hbe.alloc hbe.size (.cells #[.string (s.extract f s.size)] 9))
   have hsz := HB1.out.size
   clear hk hlt
   go_wp2_with (at_builtin; refine wpList_append_one rfl (.tmp 28) (.tmp 32) elemS rfl w.heap.size u5 rfl n xs hO1.out (by omega) wr.heap.size (.string (s.extract f s.size)) rfl HCE.out hltw rfl hsz ?_)
   intro v2 w2 hown2 hgr
   rw [HE.out.2, HE.out.1] at hown2
   have HO2 := hid hown2
   have HB2 := hid (own_grown HB1.out hO1.out hgr hsz)
   clear hown2 hgr hO1 HCE HB1
   go_wp2
   go_ret
   exact ⟨_, rfl, HO2.out, HB2.out⟩
end Go.Proofs.YtpkgkeclkbidiaaGreatDoor.LxC
namespace Go.Proofs.YtpkgkeclkbidiaaGreatDoor.LxW
open Go.RowKit Go.Lib LxM LxP LxK LxJ LxC

/-- bytes in a block, which may be written -/
def BytesAt (w : World) (g : Nat) (l : List UInt8) : Prop := ∀ j (h : j < l.length), w.cell? ⟨g, j, none⟩ = some (.int .u8 (l[j].toNat : Int)) ∧ w.frozen? ⟨g, j, none⟩ = false
theorem BytesAt.set {w : World} {g : Nat} {l : List UInt8} (h : BytesAt w g l) (i : Nat) (hi : i < l.length) (c : UInt8) (n : Int) (hn : n = (c.toNat : Int)) : BytesAt (w.setCell ⟨g, i, none⟩ (.int .u8 n)) g (l.set i c) := by
 subst hn
 intro j hj
 rw [List.length_set] at hj
 rw [World.frozen?_setCell]
 refine ⟨?_, (h j hj).2⟩
 by_cases e : i = j
 ·subst e
  rw [World.cell?_setCell_same w _ _ (h i hi).1]
  simp
 ·rw [World.cell?_setCell_other w _ _ _ (by simp), (h j hj).1]
  simp [e]
theorem BytesAt.back {w : World} {g : Nat} {l : List UInt8} (h : BytesAt w g l) (cap : Nat) :
  (convert 100 9 (.slice (some ⟨g, 0, none⟩) l.length cap)).run Tryz.prog w = .ok (.string ⟨l.toArray⟩) w :=
 run_convert_bytes_back (P := Tryz.prog) w 100 9 5 ⟨g, 0, none⟩ cap l Tryz.underlying100 Tryz.underlying5 Tryz.underlying9 (fun j hj => by
  rw [show (⟨g, 0, none⟩ : Addr).add j = ⟨g, j, none⟩ by simp [Addr.add]; omega]
  exact (h j hj).1)

/-- the first so many turned -/
def turn (l : List UInt8) (i : Nat) : List UInt8 := (l.take i).map spB ++ l.drop i
theorem turn_zero (l : List UInt8) : turn l 0 = l := rfl
theorem turn_all (l : List UInt8) : turn l l.length = l.map spB := by simp [turn]
theorem turn_length (l : List UInt8) (i : Nat) : (turn l i).length = l.length := by simp [turn]; omega
theorem turn_at {l : List UInt8} {i : Nat} (h : i < l.length) : (turn l i)[i]'(by rw [turn_length]; exact h) = l[i] := by
 unfold turn
 rw [List.getElem_append_right (by simp; omega)]
 simp [List.length_take, Nat.min_eq_left (Nat.le_of_lt h)]
theorem turn_next {l : List UInt8} {i : Nat} (h : i < l.length) : turn l (i + 1) = (turn l i).set i (spB l[i]) := by
 unfold turn
 rw [List.take_succ_eq_append_getElem h, List.set_append_right _ _ (by simp; omega)]
 simp only [List.length_map, List.length_take, Nat.min_eq_left (Nat.le_of_lt h), Nat.sub_self, List.map_append, List.map_cons, List.map_nil]
 conv => rhs; rw [List.drop_eq_getElem_cons h, List.set_cons_zero]
 simp
theorem turn_same {l : List UInt8} {i : Nat} (h : i < l.length) (hs : spB l[i] = l[i]) : turn l (i + 1) = turn l i := by
 rw [turn_next h, hs]
 have h2 : i < (turn l i).length := by rw [turn_length]; exact h
 have e := turn_at h
 have e2 : (turn l i).set i ((turn l i)[i]) = turn l i := List.set_getElem_self h2
 rw [e] at e2
 exact e2

/-- the words so far -/
theorem keep_take {l : List Word} {k : Nat} (h : k < l.length) : (l.take (k + 1)).filter some1 = if l[k] = [] then (l.take k).filter some1 else (l.take k).filter some1 ++ [l[k]] := by
 rw [List.take_succ_eq_append_getElem h, filter_push]
 rfl
theorem mk_ne {y : Word} (h : y ≠ []) : (mk y).toList.isEmpty = false := by
 rw [Lib.toList_data]
 show (un (mk y)).isEmpty = false
 rw [un_mk]
 cases y with
 | nil => exact absurd rfl h
 | cons a t => rfl
theorem own_strs {w : World} {B : Nat} {u : Value} {n : Nat} {l : List Word} (h : w.ownsRow B 9 1 u n (strs (mkW l))) (hl : l.length ≤ 1000000) : StrsAt w u (mkW l) := list_of_owns h (by simp; omega)
theorem cut_small (b : Nat) : ∀ l : List UInt8, (∀ x ∈ (cutP b l).1, x.length ≤ l.length) ∧ (cutP b l).2.length ≤ l.length ∧ (cutP b l).1.length ≤ l.length := by
 refine snoc_ind ⟨by simp [cutP], by simp [cutP], by simp [cutP]⟩ fun l c ih => ?_
 obtain ⟨h1, h2, h3⟩ := ih
 rw [cutP_snoc, List.length_append]
 unfold cstep
 split
 ·refine ⟨fun x hx => ?_, by simp, by simp; omega⟩
  simp only [List.mem_append, List.mem_singleton] at hx
  rcases hx with hx | rfl
  ·have := h1 x hx; omega
  ·omega
 ·exact ⟨fun x hx => by have := h1 x hx; omega, by simp; omega, by simp only; omega⟩
theorem cutS_small {b : Nat} {l : List UInt8} : (∀ x ∈ cutS b l, x.length ≤ l.length) ∧ (cutS b l).length ≤ l.length + 1 := by
 obtain ⟨h1, h2, h3⟩ := cut_small b l
 unfold cutS
 refine ⟨fun x hx => ?_, by simp; omega⟩
 rcases List.mem_append.1 hx with hx | hx
 ·exact h1 x hx
 ·rw [List.mem_singleton.1 hx]; exact h2
/-- bytes out of a string -/
theorem to_bytes (w : World) (x : Word) : ∃ w2 cap, (convert 9 100 (.string (mk x))).run Tryz.prog w = .ok (.slice (some ⟨w.heap.size, 0, none⟩) x.length cap) w2 ∧ BytesAt w2 w.heap.size x ∧ Below w.heap.size w w2 := by
 have h := run_bytes_of_string (P := Tryz.prog) w 9 100 5 (mk x) Tryz.underlying9 Tryz.underlying100 Tryz.underlying5
 rw [mk_size] at h
 refine ⟨_, _, h, fun j hj => ?_, ?_⟩
 ·generalize grownCap w x.length 0 5 = cap
  have hs : j < (mk x).data.size := by simpa [mk] using hj
  have e := bytesRow_at (mk x) cap j hs
  have hlen : x.length ≤ (bytesRow (mk x) cap).size := by
   have := mk_size x
   unfold bytesRow
   simp [mk]
  refine ⟨?_, ?_⟩
  ·have := World.cell?_alloc_mark w.drew (bytesRow (mk x) cap) 5 ((bytesRow (mk x) cap).size, (bytesRow (mk x) cap).size + 1) j
   rw [e] at this
   refine this.trans ?_
   simp [mk]
  ·have := World.frozen?_alloc_mark w.drew (bytesRow (mk x) cap) 5 (bytesRow (mk x) cap).size ((bytesRow (mk x) cap).size + 1) j
   refine this.trans ?_
   simp
   omega
 ·exact (Below.refl _ _).drew.alloc (Nat.le_refl _) _

set_option maxHeartbeats 2000000 in
theorem wordsOf_calls (s : ByteArray) (hs : s.size ≤ 16384) (w : World) : Calls Tryz.prog 26 #[.string s] w (StrsR (wordsB (un s)) w) := by
 have HC := hid (cut_calls s hs 35 w)
 obtain ⟨x, t, hx⟩ : ∃ x t, cutS 35 (un s) = x :: t := by
  cases h : cutS 35 (un s) with
  | nil => have := cutS_ne 35 (un s); rw [h] at this; simp at this
  | cons a t => exact ⟨a, t, rfl⟩
 have hxl : x.length ≤ s.size := by
  have := (cutS_small (b := 35) (l := un s)).1 x (by rw [hx]; simp)
  rwa [un_len] at this
 have htl : t.length ≤ s.size := by
  have := (cutS_small (b := 35) (l := un s)).2
  rw [un_len, hx] at this
  simpa using this
 have href : wordsB (un s) = (cutS 32 (x.map spB)).filter some1 := by rw [← refW_eq]; unfold refW; rw [hx]; rfl
 rw [href]
 rw [hx] at HC
 clear hx href
 generalize hD : cutS 32 (x.map spB) = D at *
 have HC2 := hid (fun wx => cut_calls (mk (x.map spB)) (by rw [mk_size]; simp; omega) 32 wx)
 rw [un_mk, hD] at HC2
 have hDs := (cutS_small (b := 32) (l := x.map spB))
 rw [hD, List.length_map] at hDs
 have hDl := hDs.2
 clear hD hDs
 go_enter Tryz.func26, Tryz.ntmps26
 go_wp2_with fail
 refine HC.out.mono ?_
 rintro e w1 ⟨u, rfl, hown, hb1⟩
 have HSA := hid (own_strs hown (by simp; omega))
 obtain ⟨ua, uc, rfl, hul⟩ := HSA.out.slice
 obtain ⟨g, o, rfl, hg, hc⟩ := HSA.out.at 0 (by simp)
 simp only [List.map_cons, List.getElem_cons_zero, Nat.add_zero] at hc
 obtain ⟨w2, cap, hcv, hB, hb2⟩ := to_bytes w1 x
 have HB2 := hid hB
 have hbe2 := hb1.trans (hb2.mono hb1.size)
 have HX : Hid (BytesAt w2 w1.heap.size (turn x 0)) := by rw [turn_zero]; exact HB2
 have hgs : w.heap.size ≤ w1.heap.size := hb1.size
 simp only [List.length_map, List.length_cons] at hul
 clear hown hB
 generalize hn : x.length = n at *
 have HN := hid hn
 clear hn
 clear HC
 go_wp2
 clear hcv hc
 go_loopg [4] n (fun gk iv wr => ∃ i : Nat, i + gk = n ∧ iv = .int .i64 i ∧ Hid (BytesAt wr w1.heap.size (turn x i)) ∧ Below w.heap.size w wr)
 case atStart => exact ⟨0, by omega, rfl, HX, hbe2⟩
 case round =>
  obtain ⟨i, hi, rfl, HBY, hbe⟩ := hrel
  have HI := hid hi
  by_cases hlt : i < n
  ·have hix : i < x.length := by rw [HN.out]; exact hlt
   obtain ⟨hcell, hfz⟩ := HBY.out i (by rw [turn_length]; exact hix)
   rw [turn_at hix] at hcell
   have h255 := u8_le x[i]
   have HSET := hid (fun c => turn_next hix ▸ HBY.out.set i (by rw [turn_length]; exact hix) (spB x[i]) c)
   have HSAME := hid (fun h => (turn_same hix h) ▸ HBY.out)
   have HBS := hid (hbe.setCell (p := ⟨w1.heap.size, i, none⟩) hgs (.int .u8 32))
   clear hi
   by_cases h9 : x[i].toNat = 9
   ·have HS := hid (HSET.out 32 (by simp [spB, h9]))
    have e9 : ((x[i].toNat : Int) == 9) = true := by simp; omega
    clear HSET HSAME h9
    go_wp2
    go_roundg (gk - 1)
    case measure => have := HI.out; omega
    case rel => exact ⟨i + 1, by have := HI.out; omega, by go_num, HS, HBS.out⟩
   by_cases h13 : x[i].toNat = 13
   ·have HS := hid (HSET.out 32 (by simp [spB, h13]))
    have e9 : ((x[i].toNat : Int) == 9) = false := by simp; omega
    have e13 : ((x[i].toNat : Int) == 13) = true := by simp; omega
    clear HSET HSAME h13 h9
    go_wp2
    go_roundg (gk - 1)
    case measure => have := HI.out; omega
    case rel => exact ⟨i + 1, by have := HI.out; omega, by go_num, HS, HBS.out⟩
   ·have HS := hid (HSAME.out (by simp [spB, h9, h13]))
    have e9 : ((x[i].toNat : Int) == 9) = false := by simp; omega
    have e13 : ((x[i].toNat : Int) == 13) = false := by simp; omega
    clear HSET HSAME h13 h9
    go_wp2
    go_roundg (gk - 1)
    case measure => have := HI.out; omega
    case rel => exact ⟨i + 1, by have := HI.out; omega, by go_num, HS, hbe⟩
  ·obtain rfl : i = n := by omega
   have hbk := HBY.out.back cap
   rw [turn_length, HN.out] at hbk
   have hmk : (⟨(turn x i).toArray⟩ : ByteArray) = mk (x.map spB) := by rw [← turn_all, HN.out]; rfl
   rw [hmk] at hbk
   have HCW := hid (HC2.out wr)
   clear hi hlt hmk HBY HI HX HB2 HC2
   go_wp2_with fail
   refine HCW.out.mono ?_
   rintro e w3 ⟨v, rfl, hown, hb3⟩
   have HSD := hid (own_strs hown (by omega))
   have hbe3 := hbe.trans (hb3.mono hbe.size)
   obtain ⟨va, vc, rfl, hvl⟩ := HSD.out.slice
   simp only [List.length_map] at hvl ⊢
   clear hown hb3 HCW hbk
   have HB3 := hid hbe3
   go_wp2
   clear hbe hb1 hb2 hbe2
   go_loopg [5, 7] D.length (fun gk u iv wx => ∃ k : Nat, k + gk = D.length ∧ iv = .int .i64 k ∧ Hid (wx.ownsRow w3.heap.size 9 1 u ((D.take k).filter some1).length (strs (mkW ((D.take k).filter some1)))) ∧ Below w3.heap.size w3 wx)
   case atStart => exact ⟨0, by omega, rfl, World.ownsRow_nil _ _ _ _, Below.refl _ _⟩
   case round =>
    obtain ⟨k, hk, rfl, HO, hbx⟩ := hrel
    have HK := hid hk
    by_cases hlt : k < D.length
    ·obtain ⟨b, o, rfl, _, hc⟩ := (HSD.out.below hbx).at k (by simpa using hlt)
     simp only [List.getElem_map] at hc
     have HT := hid (keep_take hlt)
     have hfl : ((D.take k).filter some1).length ≤ 20000 := by
      have h1 := List.length_filter_le some1 (D.take k)
      rw [List.length_take] at h1
      omega
     generalize (D.take k).filter some1 = F at *
     generalize D[k] = y at *
     clear hk
     by_cases hy : y = []
     ·have HT2 : Hid ((D.take (k + 1)).filter some1 = F) := by show _ = _; rw [HT.out, if_pos hy]
      have hmy : mk y = ⟨#[]⟩ := by rw [hy]; rfl
      rw [hmy] at hc
      clear hy hmy HT
      go_wp2
      go_roundg (gk - 1)
      case measure => have := HK.out; omega
      case rel => exact ⟨k + 1, by have := HK.out; omega, by go_num, by rw [HT2.out]; exact HO, hbx⟩
     ·have HT2 : Hid ((D.take (k + 1)).filter some1 = F ++ [y]) := by show _ = _; rw [HT.out, if_neg hy]
      have HSN : Hid (strs (mkW (F ++ [y])) = strs (mkW F) ++ [.string (mk y)]) := by show _ = _; simp
      have hze := mk_ne hy
      generalize mk y = z at *
      generalize strs (mkW F) = xs at *
      generalize hm : F.length = m at *
      have HM := hid hm
      clear hm
      have hO1 : Hid ((wr.alloc (.cells #[.string z] 9)).ownsRow w3.heap.size 9 1 u5 m xs) := HO.out.alloc _
      have HCE : Hid ((wr.alloc (.cells #[.string z] 9)).cell? ⟨wr.heap.size, 0, none⟩ = some (.string z)) := by show _ = _; simp
      have hltw : wr.heap.size < (wr.alloc (.cells #[.string z] 9)).heap.size := by simp
      have HB1 := hid (hbx.alloc hbx.size (.cells #[.string z] 9))
      have hsz := HB1.out.size
      clear HT hy
      go_wp2_with (at_builtin; refine wpList_append_one rfl (.tmp 48) (.tmp 53) elemS rfl w3.heap.size u5 rfl m xs hO1.out (by omega) wr.heap.size (.string z) rfl HCE.out hltw rfl hsz ?_)
      intro v2 w2 hown2 hgr
      have HO2 : Hid (w2.ownsRow w3.heap.size 9 1 v2 (F ++ [y]).length (strs (mkW (F ++ [y])))) := by
       show World.ownsRow _ _ _ _ _ _ _
       rw [HSN.out, List.length_append, HM.out]
       exact hown2
      have HB5 := hid (own_grown HB1.out hO1.out hgr hsz)
      clear hown2 hgr hO1 HCE HB1
      go_wp2
      go_roundg (gk - 1)
      case measure => have := HK.out; omega
      case rel => exact ⟨k + 1, by have := HK.out; omega, by go_num, by rw [HT2.out]; exact HO2, HB5.out⟩
    ·obtain rfl : k = D.length := by omega
     rw [List.take_length] at HO
     have HOB := hid (owns_base HO.out HB3.out.size)
     have HBF := hid (HB3.out.trans (hbx.mono HB3.out.size))
     clear hk
     go_wp2
     go_ret
     exact ⟨_, rfl, HOB.out, HBF.out⟩
end Go.Proofs.YtpkgkeclkbidiaaGreatDoor.LxW
namespace Go.Proofs.YtpkgkeclkbidiaaGreatDoor.LxQ
open Go.RowKit Go.Lib LxM LxP LxK LxJ LxC LxW

/-- the lines of the first so many -/
def QI (w : World) (D : List Word) (k : Nat) (u : Value) (r : List Rw) (wr : World) : Prop :=
 r.map Prod.fst = mkL (((D.take k).map wordsB).filter full) ∧ OwnL w.heap.size u r wr ∧ Below w.heap.size w wr ∧ ∀ x ∈ (D.take k).map wordsB, x.length ≤ 64
theorem QI.len {w wr : World} {D : List Word} {k : Nat} {u : Value} {r : List Rw} (h : QI w D k u r wr) : r.length ≤ D.length := by
 have h1 : r.length = (((D.take k).map wordsB).filter full).length := by
  have := congrArg List.length h.1
  simpa [mkL] using this
 have h2 := List.length_filter_le full ((D.take k).map wordsB)
 rw [List.length_map, List.length_take] at h2
 omega
theorem q_take {D : List Word} {k : Nat} (h : k < D.length) : (D.take (k + 1)).map wordsB = (D.take k).map wordsB ++ [wordsB D[k]] := by
 rw [List.take_succ_eq_append_getElem h, List.map_append]; rfl
theorem QI.short {w wr : World} {D : List Word} {k : Nat} {u : Value} {r : List Rw} (h : QI w D k u r wr) (hk : k < D.length) (hl : (wordsB D[k]).length ≤ 64) : ∀ x ∈ (D.take (k + 1)).map wordsB, x.length ≤ 64 := by
 rw [q_take hk]
 intro x hx
 rcases List.mem_append.1 hx with hx | hx
 ·exact h.2.2.2 x hx
 ·rw [List.mem_singleton.1 hx]; exact hl
theorem QI.empty {w wr w1 : World} {D : List Word} {k : Nat} {u : Value} {r : List Rw} (h : QI w D k u r wr) (hk : k < D.length) (hw : wordsB D[k] = []) (hb : Below wr.heap.size wr w1) : QI w D (k + 1) u r w1 := by
 refine ⟨?_, OwnL.below h.2.1 hb, h.2.2.1.trans (hb.mono h.2.2.1.size), h.short hk (by rw [hw]; simp)⟩
 rw [h.1, q_take hk, hw, List.filter_append]
 simp [full]
theorem QI.full {w wr w1 w2 : World} {D : List Word} {k : Nat} {u u2 v : Value} {r : List Rw} {W : List Word} (h : QI w D k u r wr) (hk : k < D.length) (hw : wordsB D[k] = W) (hne : W ≠ []) (hl : W.length ≤ 64) (hb : Below wr.heap.size wr w1)
  (hv : w1.ownsRow wr.heap.size 9 1 v W.length (strs (mkW W))) (hg : w1.grownBy w2 u.ownBlock) (ho : w2.ownsRow w.heap.size 48 1 u2 (r.length + 1) (r.map Prod.snd ++ [v])) : QI w D (k + 1) u2 (r ++ [(mkW W, v)]) w2 := by
 have hO := OwnL.below h.2.1 hb
 have hbw := h.2.2.1.trans (hb.mono h.2.2.1.size)
 refine ⟨?_, OwnL.snoc hO (owns_base (by simpa using hv) h.2.2.1.size) hg ho, own_grown hbw hO.1 hg hbw.size, h.short hk (by rw [hw]; exact hl)⟩
 rw [List.map_append, h.1, q_take hk, hw, List.filter_append]
 have : List.filter LxM.full [W] = [W] := by
  cases W with
  | nil => exact absurd rfl hne
  | cons a t => rfl
 rw [this]
 simp
theorem QI.long {w wr : World} {s : ByteArray} {k : Nat} {u : Value} {r : List Rw} (_ : QI w (cutS 10 (un s)) k u r wr) (hk : k < (cutS 10 (un s)).length) (hl : 64 < (wordsB (cutS 10 (un s))[k]).length) : lnE (un s) = 4 := by
 refine lnE_long (x := wordsB (cutS 10 (un s))[k]) ?_ hl
 rw [allW_cut]
 exact List.mem_map_of_mem (List.getElem_mem hk)
theorem QI.end {w w1 wr : World} {s : ByteArray} {u : Value} {r : List Rw} (h : QI w1 (cutS 10 (un s)) (cutS 10 (un s)).length u r wr) (hb : Below w.heap.size w w1) (hs : s.size ≤ 16384) : LnR s w (.returned (.tuple #[u, .int .i64 0])) wr := by
 obtain ⟨h1, h2, h3, h4⟩ := h
 replace h2 := h2.base hb.size
 replace h3 := hb.trans (h3.mono hb.size)
 rw [List.take_length, ← allW_cut] at h1 h4
 have hE : lnE (un s) = 0 := lnE_ok (by rw [un_len]; exact hs) h4
 exact ⟨u, r, by rw [hE], by rw [h1, lnT_ok hE], h2, h3⟩

set_option maxHeartbeats 2000000 in
theorem linesR_calls (s : ByteArray) (w : World) : Calls Tryz.prog 10 #[.string s] w (LnR s w) := by
 by_cases hbig : 16384 < s.size
 ·have HE := hid (lnE_big (s := un s) (by rw [un_len]; exact hbig))
  go_enter Tryz.func10, Tryz.ntmps10
  go_wp2
  go_ret2
  exact LnR.many HE.out (Below.refl _ _)
 ·have hs : s.size ≤ 16384 := by omega
  have HC := hid (cut_calls s hs 10 w)
  have HEND := hid (fun (w1 : World) (hb : Below w.heap.size w w1) (u : Value) (r : List Rw) (wr : World) (h : QI w1 (cutS 10 (un s)) (cutS 10 (un s)).length u r wr) => h.end hb hs)
  have HLONG := hid (fun (w1 : World) (u : Value) (r : List Rw) (wr : World) (k : Nat) (h : QI w1 (cutS 10 (un s)) k u r wr) hk hl => h.long hk hl)
  obtain ⟨hds, hdl⟩ := cutS_small (b := 10) (l := un s)
  rw [un_len] at hds hdl
  generalize cutS 10 (un s) = D at *
  have HDS := hid hds
  clear hds
  go_enter Tryz.func10, Tryz.ntmps10
  go_wp2_with fail
  refine HC.out.mono ?_
  rintro e w1 ⟨v, rfl, hown, hb1⟩
  have HSD := hid (own_strs hown (by omega))
  obtain ⟨va, vc, rfl, hvl⟩ := HSD.out.slice
  simp only [List.length_map] at hvl ⊢
  have HQ : Hid (QI w1 D 0 (.slice none 0 0) [] w1) := ⟨rfl, OwnL.nil _ _, Below.refl _ _, by simp⟩
  have HB1 := hid hb1
  clear hown HC
  go_wp2
  go_loopg [4, 6, 7] D.length (fun gk u iv _wv wr => ∃ (k : Nat) (r : List Rw), k + gk = D.length ∧ iv = .int .i64 k ∧ Hid (QI w1 D k u r wr))
  case atStart => exact ⟨0, [], by omega, rfl, HQ⟩
  case round =>
   obtain ⟨k, r, hk, rfl, HI⟩ := hrel
   have hbx := HI.out.2.2.1
   have HK := hid hk
   by_cases hlt : k < D.length
   ·obtain ⟨b, o, rfl, _, hc⟩ := (HSD.out.below hbx).at k (by simpa using hlt)
    simp only [List.getElem_map] at hc
    have hxl := HDS.out _ (List.getElem_mem hlt)
    have HW := hid (wordsOf_calls (mk D[k]) (by rw [mk_size]; omega) wr)
    rw [un_mk] at HW
    have hrl := HI.out.len
    have HL := hid (HLONG.out _ _ r wr k HI.out hlt)
    have HEM := hid (fun h w1 => HI.out.empty (w1 := w1) hlt h)
    have HFU := hid (fun (w1 w2 : World) (u2 v : Value) (W : List Word) h => HI.out.full (w1 := w1) (w2 := w2) (u2 := u2) (v := v) (W := W) hlt h)
    have HOL := hid HI.out.2.1
    generalize D[k] = y at *
    generalize hW : wordsB y = W at *
    have HWW := hid hW
    clear hk hW hxl
    go_wp2_with fail
    refine HW.out.mono ?_
    rintro e w2 ⟨v, rfl, hv, hb2⟩
    obtain ⟨va2, vc2, rfl⟩ := own_slice hv
    have HV := hid hv
    have HB2 := hid hb2
    have hbx2 := hbx.trans (hb2.mono hbx.size)
    have hbw2 := HB1.out.trans (hbx2.mono HB1.out.size)
    clear hv hb2 HW hbx hc
    by_cases h64 : 64 < W.length
    ·have HE := hid (HL.out h64)
     clear HL HEM HFU HSD HQ
     generalize W.length = n at *
     go_wp2
     go_ret2
     exact LnR.many HE.out hbw2
    by_cases h0 : W = []
    ·have HN := hid (HEM.out h0 w2 HB2.out)
     have hz : W.length = 0 := by rw [h0]; rfl
     clear HL HEM HFU h0
     generalize W.length = n at *
     subst hz
     go_wp2
     go_roundg (gk - 1)
     case measure => have := HK.out; omega
     case rel => exact ⟨k + 1, r, by have := HK.out; omega, by go_num, HN⟩
    ·have HN := hid (fun w3 u3 => HFU.out (w2.alloc (.cells #[.slice va2 W.length vc2] 48)) w3 u3 (.slice va2 W.length vc2) W rfl h0 (by omega) (HB2.out.alloc HB2.out.size _) (HV.out.alloc _))
     have hpos : 0 < W.length := by
      cases W with
      | nil => exact absurd rfl h0
      | cons a t => simp
     have hO1 : Hid ((w2.alloc (.cells #[.slice va2 W.length vc2] 48)).ownsRow w1.heap.size 48 1 u4 r.length (r.map Prod.snd)) := (ownsRow_below HOL.out.1 HB2.out).alloc _
     clear HL HEM HFU h0 HV HOL
     generalize W.length = n at *
     have HCE : Hid ((w2.alloc (.cells #[.slice va2 n vc2] 48)).cell? ⟨w2.heap.size, 0, none⟩ = some (.slice va2 n vc2)) := by show _ = _; simp
     have hltw : w2.heap.size < (w2.alloc (.cells #[.slice va2 n vc2] 48)).heap.size := by simp
     have hsz := (hbx2.alloc hbx2.size (.cells #[.slice va2 n vc2] 48)).size
     go_wp2_with (at_builtin; refine wpList_append_one rfl (.tmp 30) (.tmp 32) elemL rfl w1.heap.size u4 rfl r.length (r.map Prod.snd) hO1.out (by omega) w2.heap.size (.slice va2 n vc2) rfl HCE.out hltw rfl hsz ?_)
     intro u3 w3 hown3 hgr
     have HQ3 := hid (HN.out w3 u3 hgr hown3)
     clear hown3 hgr hO1 HCE HN
     go_wp2
     go_roundg (gk - 1)
     case measure => have := HK.out; omega
     case rel => exact ⟨k + 1, _, by have := HK.out; omega, by go_num, HQ3⟩
   ·obtain rfl : k = D.length := by omega
    have HE := hid (HEND.out _ HB1.out _ _ _ HI.out)
    clear hk HEND HLONG HDS HI HQ
    go_wp2
    go_ret2
    exact HE.out
end Go.Proofs.YtpkgkeclkbidiaaGreatDoor.LxQ
