/- Plain facts for comparing lists of lines. Walk over lex.Mark. Walks over lex.may, lex.odd and fescueref05.May. Walks over slices.IndexFunc, slices.ContainsFunc and lex.odd: a line that may not be. Walks over lex.join and lex.Join. Walks over lex.Join; fescueref05.May, mayAll, line and Join. -/
import Derived.Test.YtbebficgcemkoaaGreatDoorZLxKToWrI
import Derived.Deep.LoopGhost
import Derived.Test.YtbebficgcemkoaaGreatDoorZNumEToNumG
import Derived.Laws.BytesArg
namespace Go.Proofs.YtbebficgcemkoaaGreatDoor.LxS
open Go.RowKit Go.Lib LxM LxP LxK LxJ

def BoolR (b : Bool) (w : World) (e : Ending) (w' : World) : Prop := e = .returned (.bool b) ∧ Below w.heap.size w w'
/-- alike, so far -/
def Pre {α : Type} (a b : List α) (k : Nat) : Prop := a.take k = b.take k
theorem pre_succ {α : Type} {a b : List α} {k : Nat} (ha : k < a.length) (hb : k < b.length) (h : Pre a b k) (e : a[k] = b[k]) : Pre a b (k + 1) := by
  unfold Pre at h ⊢
  rw [List.take_succ_eq_append_getElem ha, List.take_succ_eq_append_getElem hb, h, e]
theorem ne_at {α : Type} {a b : List α} {k : Nat} (ha : k < a.length) (hb : k < b.length) (e : a[k] ≠ b[k]) : a ≠ b := fun h => e (by subst h; rfl)
theorem pre_all {α : Type} {a b : List α} (hl : a.length = b.length) (h : Pre a b a.length) : a = b := by
  unfold Pre at h
  rw [List.take_length] at h
  rw [h, List.take_of_length_le (by omega)]
theorem str_ne {x y : ByteArray} (h : x ≠ y) : (x.toList == y.toList) = false := by
  rw [Lib.toList_data, Lib.toList_data]
  refine beq_eq_false_iff_ne.2 fun e => h ?_
  rw [← Lib.mk_data x, ← Lib.mk_data y, e]

end Go.Proofs.YtbebficgcemkoaaGreatDoor.LxS
namespace Go.Proofs.YtbebficgcemkoaaGreatDoor.LxY
open Go.RowKit Go.Lib LxM LxP LxK LxJ NumP NumQ NumR NumG

set_option maxHeartbeats 1000000 in
theorem mark_calls (s : ByteArray) (hs : s.size ≤ 9223372036854775807) (c : UInt8) (w : World) :
    Calls Tryz.prog 154 #[.string s, .int .u8 (c.toNat : Int)] w (MkR s c w) := by
  have h255 := u8_le c
  by_cases h0 : s.size = 0
  · have HE := hid (mkN_nil (c := c) h0)
    have hse : s = ⟨#[]⟩ := by
      apply ByteArray.ext
      exact Array.eq_empty_of_size_eq_zero h0
    subst hse
    go_enter Tryz.func154, Tryz.ntmps154
    go_wp2
    go_ret2
    exact ⟨by rw [HE.out]; rfl, Below.refl _ _⟩
  · have hpos : 0 < s.size := by omega
    have hne : s.toList.isEmpty = false := by
      rw [Lib.toList_data]
      show (un s).isEmpty = false
      rw [un_cons hpos]; rfl
    by_cases hc : s[0] = c
    · have HE := hid (mkN_yes hpos hc)
      have hcc : ((s[0].toNat : Int) != (c.toNat : Int)) = false := by simp [hc]
      have hsx : (s.extract 1 s.size).size ≤ 9223372036854775807 := by rw [ByteArray.size_extract]; omega
      have HC := hid (small_calls (s.extract 1 s.size) hsx 999 w)
      unfold SmPost at HC
      clear hc
      go_enter Tryz.func154, Tryz.ntmps154
      go_wp2_with fail
      refine HC.out.mono ?_
      rintro e w1 ⟨rfl, hb⟩
      clear HC
      generalize NumG.sm (un (s.extract 1 s.size)) 999 = r at *
      go_wp2
      go_ret2
      exact ⟨by rw [HE.out]; rfl, hb⟩
    · have HE := hid (mkN_no hpos hc)
      have hcc : ((s[0].toNat : Int) != (c.toNat : Int)) = true := by
        simp only [bne_iff_ne, ne_eq]
        intro e
        exact hc (UInt8.toNat_inj.1 (by omega))
      clear hc
      go_enter Tryz.func154, Tryz.ntmps154
      go_wp2
      go_ret2
      exact ⟨by rw [HE.out]; rfl, Below.refl _ _⟩
end Go.Proofs.YtbebficgcemkoaaGreatDoor.LxY
namespace Go.Proofs.YtbebficgcemkoaaGreatDoor.LxY
open Go.RowKit Go.Lib LxM LxP LxK LxJ LxS NumP NumQ NumR NumG

/-! words that may be -/
theorem may_no {x : ByteArray} {k : Nat} (h : k < x.size) (hk : kindS x k ≠ 0) : mayB (un x) = false := by
  rw [kindS_in h] at hk
  obtain ⟨h2, e⟩ := at_byte h
  cases hm : mayB (un x) with
  | false => rfl
  | true => exact absurd (by rw [← e]; exact (mayB_iff.1 hm).2 _ (List.getElem_mem h2)) hk
theorem may_yes {x : ByteArray} (h : ∀ k, k < x.size → kindS x k = 0) : mayB (un x) = !(un x).isEmpty := by
  cases he : un x with
  | nil => rfl
  | cons a t =>
    rw [← he]
    rw [mayB_iff.2 ⟨by rw [he]; simp, fun c hc => ?_⟩]
    · rw [he]; rfl
    · obtain ⟨k, hk, rfl⟩ := List.getElem_of_mem hc
      have hk2 : k < x.size := by rw [un_len] at hk; exact hk
      have := h k hk2
      rw [kindS_in hk2] at this
      exact this

set_option maxHeartbeats 1000000 in
theorem may_calls (x : ByteArray) (hs : x.size ≤ 9223372036854775807) (w : World) (ht : Tab w) :
    Calls Tryz.prog 87 #[.string x] w (BoolR (mayB (un x)) w) := by
  have HT := hid ht
  have HY := hid (may_yes (x := x))
  have HNO := hid (fun k h => may_no (x := x) (k := k) h)
  clear ht
  go_enter Tryz.func87, Tryz.ntmps87
  go_wp2
  go_loopg [6] x.size (fun gk i wr => ∃ k : Nat, k + gk = x.size ∧ i = .int .i64 k ∧ Hid (∀ j, j < k → kindS x j = 0) ∧ Below w.heap.size w wr)
  case atStart => exact ⟨0, by omega, rfl, (fun j h => by omega), Below.refl _ _⟩
  case round =>
    obtain ⟨k, hk, rfl, HA, hbe⟩ := hrel
    have HK := hid hk
    by_cases hlt : k < x.size
    · have HC := hid (kindAt_calls x k (by omega) wr (HT.out.on hbe))
      clear hk
      by_cases hz : kindS x k = 0
      · have HA2 : Hid (∀ j, j < k + 1 → kindS x j = 0) := fun j hj => by
          by_cases e : j = k
          · rw [e]; exact hz
          · exact HA.out j (by omega)
        rw [hz] at HC
        clear hz
        go_wp2_with fail
        refine HC.out.mono ?_
        rintro e w1 ⟨rfl, rfl⟩
        go_wp2
        go_roundg (gk - 1)
        case measure => have := HK.out; omega
        case rel => exact ⟨k + 1, by have := HK.out; omega, by go_num, HA2, hbe⟩
      · have HN := hid (HNO.out k hlt hz)
        generalize kindS x k = kd at *
        have hne : ((kd : Int) != 0) = true := by simp; omega
        go_wp2_with fail
        refine HC.out.mono ?_
        rintro e w1 ⟨rfl, rfl⟩
        go_wp2
        go_ret
        exact ⟨by rw [HN.out]; rfl, hbe⟩
    · obtain rfl : k = x.size := by omega
      have HE := hid (HY.out HA.out)
      clear hk
      go_wp2
      go_ret
      exact ⟨by rw [HE.out]; show Ending.returned (Value.bool (!x.toList.isEmpty)) = _; rw [Lib.toList_data], hbe⟩
theorem oddw_calls (x : ByteArray) (hs : x.size ≤ 9223372036854775807) (w : World) (ht : Tab w) :
    Calls Tryz.prog 86 #[.string x] w (BoolR (!mayB (un x)) w) := by
  have HC := hid (may_calls x hs w ht)
  generalize mayB (un x) = b at *
  go_enter Tryz.func86, Tryz.ntmps86
  go_wp2_with fail
  refine HC.out.mono ?_
  rintro e w1 ⟨rfl, hb⟩
  go_wp2
  go_ret
  exact ⟨rfl, hb⟩
end Go.Proofs.YtbebficgcemkoaaGreatDoor.LxY
namespace Go.Proofs.YtbebficgcemkoaaGreatDoor.LxO
open Go.RowKit Go.Lib LxM LxP LxK LxJ LxS LxY

def IdxR (b : Bool) (w : World) (e : Ending) (w' : World) : Prop := ∃ i : Int, e = .returned (.int .i64 i) ∧ decide (0 ≤ i) = b ∧ Below w.heap.size w w'
theorem any_no {α : Type} {l : List α} {p : α → Bool} (h : ∀ k (hk : k < l.length), p l[k] = false) : l.any p = false :=
  List.any_eq_false.2 fun x hx => by
    obtain ⟨k, hk, rfl⟩ := List.getElem_of_mem hx
    simp [h k hk]
theorem any_yes {α : Type} {l : List α} {p : α → Bool} {k : Nat} (hk : k < l.length) (h : p l[k] = true) : l.any p = true := List.any_eq_true.2 ⟨_, List.getElem_mem hk, h⟩

/-- the function value that is handed on -/
abbrev fnV (f : FuncId) : Value := .func (.func f) #[] #[]
def badW (x : ByteArray) : Bool := !mayB (un x)

set_option maxHeartbeats 1000000 in
theorem idxS_calls (va : Value) (l : List ByteArray) (w : World) (hl : StrsAt w va l) (hs : ∀ x ∈ l, x.size ≤ 9223372036854775807) (ht : Tab w) :
    Calls Tryz.prog 136 #[va, fnV 86] w (IdxR (l.any badW) w) := by
  have HA := hid hl
  obtain ⟨ao, ac, rfl, hla⟩ := hl.slice
  have HT := hid ht
  have HSZ := hid hs
  have HNO := hid (any_no (l := l) (p := badW))
  have HYE := hid (fun k hk h => any_yes (l := l) (p := badW) (k := k) hk h)
  clear hl hs ht
  go_enter Tryz.func136, Tryz.ntmps136
  go_wp2
  go_loopg [8] l.length (fun gk i wr => ∃ k : Nat, k + gk = l.length ∧ i = .int .i64 k ∧ Hid (∀ j (h : j < l.length), j < k → badW l[j] = false) ∧ Below w.heap.size w wr)
  case atStart => exact ⟨0, by omega, rfl, (fun j h h2 => by omega), Below.refl _ _⟩
  case round =>
    obtain ⟨k, hk, rfl, HB, hbe⟩ := hrel
    have HK := hid hk
    by_cases hlt : k < l.length
    · obtain ⟨b, o, rfl, _, hc⟩ := (HA.out.below hbe).at k hlt
      have HC := hid (oddw_calls l[k] (HSZ.out _ (List.getElem_mem hlt)) wr (HT.out.on hbe))
      have HY := hid (HYE.out k hlt)
      have HB2 : Hid (badW l[k] = false → ∀ j (h : j < l.length), j < k + 1 → badW l[j] = false) := fun h j hj h2 => by
        by_cases e : j = k
        · subst e; exact h
        · exact HB.out j hj (by omega)
      change Hid (Calls _ _ _ _ (BoolR (badW l[k]) wr)) at HC
      generalize hbb : badW l[k] = bb at *
      generalize l[k] = x at *
      clear hk hbb
      cases bb with
      | true =>
        have HYY := hid (HY.out rfl)
        clear HB2 HNO HYE HY
        go_wp2_with fail
        refine HC.out.mono ?_
        rintro e w1 ⟨rfl, hb1⟩
        have hbb := hbe.trans (hb1.mono hbe.size)
        go_wp2
        go_ret
        exact ⟨k, rfl, by rw [HYY.out]; simp, hbb⟩
      | false =>
        have HB3 := hid (HB2.out rfl)
        clear HB2 HNO HYE HY
        go_wp2_with fail
        refine HC.out.mono ?_
        rintro e w1 ⟨rfl, hb1⟩
        have hbb := hbe.trans (hb1.mono hbe.size)
        go_wp2
        go_roundg (gk - 1)
        case measure => have := HK.out; omega
        case rel => exact ⟨k + 1, by have := HK.out; omega, by go_num, HB3, hbb⟩
    · obtain rfl : k = l.length := by omega
      have HE := hid (HNO.out fun j hj => HB.out j hj hj)
      clear hk
      go_wp2
      go_ret
      exact ⟨-1, rfl, by rw [HE.out]; rfl, hbe⟩
theorem conS_calls (va : Value) (l : List ByteArray) (w : World) (hl : StrsAt w va l) (hs : ∀ x ∈ l, x.size ≤ 9223372036854775807) (ht : Tab w) :
    Calls Tryz.prog 85 #[va, fnV 86] w (BoolR (l.any badW) w) := by
  have HC := hid (idxS_calls va l w hl hs ht)
  generalize l.any badW = b at *
  go_enter Tryz.func85, Tryz.ntmps85
  go_wp2_with fail
  refine HC.out.mono ?_
  rintro e w1 ⟨i, rfl, rfl, hb⟩
  go_wp2
  go_ret
  exact ⟨rfl, hb⟩
/-- a line that may not be -/
def badL (x : List ByteArray) : Bool := decide (x.length = 0) || x.any badW
theorem badL_odd (x : List ByteArray) : badL x = oddL (unW x) := by
  unfold badL oddL unW
  rw [List.any_map]
  congr 1
  cases x <;> simp
set_option maxHeartbeats 1000000 in
theorem odd_calls (va : Value) (l : List ByteArray) (w : World) (hl : StrsAt w va l) (hs : ∀ x ∈ l, x.size ≤ 9223372036854775807) (ht : Tab w) :
    Calls Tryz.prog 40 #[va] w (BoolR (badL l) w) := by
  have HC := hid (conS_calls va l w hl hs ht)
  obtain ⟨ao, ac, rfl, hla⟩ := hl.slice
  unfold badL
  generalize l.any badW = b at *
  by_cases h0 : l.length = 0
  · rw [h0] at HC ⊢
    clear hl hla h0 hs
    go_enter Tryz.func40, Tryz.ntmps40
    go_wp2
    go_ret
    exact ⟨by simp, Below.refl _ _⟩
  · have hne : ((l.length : Int) == 0) = false := beq_eq_false_iff_ne.2 (by omega)
    have hd : decide (l.length = 0) = false := by simpa using h0
    rw [hd]
    clear hl hd h0 hs
    generalize l.length = n at *
    go_enter Tryz.func40, Tryz.ntmps40
    go_wp2_with fail
    refine HC.out.mono ?_
    rintro e w1 ⟨rfl, hb⟩
    go_wp2
    go_ret
    exact ⟨by simp, hb⟩
set_option maxHeartbeats 1000000 in
theorem idxL_calls (va : Value) (l : List (List ByteArray)) (w : World) (hl : LinesAt w va l) (hs : ∀ x ∈ l, ∀ y ∈ x, y.size ≤ 9223372036854775807) (ht : Tab w) :
    Calls Tryz.prog 84 #[va, fnV 40] w (IdxR (l.any badL) w) := by
  have HA := hid hl
  obtain ⟨ao, ac, rfl, hla⟩ := hl.slice
  have HT := hid ht
  have HSZ := hid hs
  have HNO := hid (any_no (l := l) (p := badL))
  have HYE := hid (fun k hk h => any_yes (l := l) (p := badL) (k := k) hk h)
  clear hl hs ht
  go_enter Tryz.func84, Tryz.ntmps84
  go_wp2
  go_loopg [8] l.length (fun gk i wr => ∃ k : Nat, k + gk = l.length ∧ i = .int .i64 k ∧ Hid (∀ j (h : j < l.length), j < k → badL l[j] = false) ∧ Below w.heap.size w wr)
  case atStart => exact ⟨0, by omega, rfl, (fun j h h2 => by omega), Below.refl _ _⟩
  case round =>
    obtain ⟨k, hk, rfl, HB, hbe⟩ := hrel
    have HK := hid hk
    by_cases hlt : k < l.length
    · obtain ⟨b, o, pv, rfl, _, hc, hp⟩ := (HA.out.below hbe).at k hlt
      have HC := hid (odd_calls pv l[k] wr hp (HSZ.out _ (List.getElem_mem hlt)) (HT.out.on hbe))
      have HY := hid (HYE.out k hlt)
      have HB2 : Hid (badL l[k] = false → ∀ j (h : j < l.length), j < k + 1 → badL l[j] = false) := fun h j hj h2 => by
        by_cases e : j = k
        · subst e; exact h
        · exact HB.out j hj (by omega)
      change Hid (Calls _ _ _ _ (BoolR (badL l[k]) wr)) at HC
      generalize hbb : badL l[k] = bb at *
      generalize l[k] = x at *
      clear hk hbb hp
      cases bb with
      | true =>
        have HYY := hid (HY.out rfl)
        clear HB2 HNO HYE HY
        go_wp2_with fail
        refine HC.out.mono ?_
        rintro e w1 ⟨rfl, hb1⟩
        have hbb := hbe.trans (hb1.mono hbe.size)
        go_wp2
        go_ret
        exact ⟨k, rfl, by rw [HYY.out]; simp, hbb⟩
      | false =>
        have HB3 := hid (HB2.out rfl)
        clear HB2 HNO HYE HY
        go_wp2_with fail
        refine HC.out.mono ?_
        rintro e w1 ⟨rfl, hb1⟩
        have hbb := hbe.trans (hb1.mono hbe.size)
        go_wp2
        go_roundg (gk - 1)
        case measure => have := HK.out; omega
        case rel => exact ⟨k + 1, by have := HK.out; omega, by go_num, HB3, hbb⟩
    · obtain rfl : k = l.length := by omega
      have HE := hid (HNO.out fun j hj => HB.out j hj hj)
      clear hk
      go_wp2
      go_ret
      exact ⟨-1, rfl, by rw [HE.out]; rfl, hbe⟩
theorem conL_calls (va : Value) (l : List (List ByteArray)) (w : World) (hl : LinesAt w va l) (hs : ∀ x ∈ l, ∀ y ∈ x, y.size ≤ 9223372036854775807) (ht : Tab w) :
    Calls Tryz.prog 39 #[va, fnV 40] w (BoolR (l.any badL) w) := by
  have HC := hid (idxL_calls va l w hl hs ht)
  generalize l.any badL = b at *
  go_enter Tryz.func39, Tryz.ntmps39
  go_wp2_with fail
  refine HC.out.mono ?_
  rintro e w1 ⟨i, rfl, rfl, hb⟩
  go_wp2
  go_ret
  exact ⟨rfl, hb⟩
end Go.Proofs.YtbebficgcemkoaaGreatDoor.LxO
namespace Go.Proofs.YtbebficgcemkoaaGreatDoor.LxN
open Go.RowKit Go.Lib LxM LxP LxK LxJ LxS LxY LxO LxB

/-- what Join answers -/
def JnR (l : List (List ByteArray)) (w : World) (e : Ending) (w' : World) : Prop :=
  e = .returned (.tuple #[.string (mk (jnT (unL l))), .int .i64 (jnE (unL l))]) ∧ Below w.heap.size w w'
/-- lines that are not too great to be gone through -/
structure Fits (l : List (List ByteArray)) : Prop where
  lines : l.length ≤ 20000
  words : ∀ x ∈ l, x.length ≤ 10000
  size : ∀ x ∈ l, ∀ y ∈ x, y.size ≤ 1000000
  all : szT (unL l) ≤ 900000
theorem szL_snoc {x : List ByteArray} {j : Nat} (h : j < x.length) : szL ((unW x).take (j + 1)) = szL ((unW x).take j) + (x[j].size + 1) := by
  have h2 : j < (unW x).length := by simpa using h
  rw [List.take_succ_eq_append_getElem h2, szL_append, szL_one]
  simp only [List.getElem_map, un_len]
theorem szT_snoc {l : List (List ByteArray)} {i : Nat} (h : i < l.length) : szT ((unL l).take (i + 1)) = szT ((unL l).take i) + szL (unW l[i]) := by
  have h2 : i < (unL l).length := by simpa using h
  rw [List.take_succ_eq_append_getElem h2, szT_append, szT_one]
  simp only [List.getElem_map]
theorem any_bad (l : List (List ByteArray)) : l.any badL = (unL l).any oddL := by
  rw [List.any_map]
  congr 1
  funext x
  exact badL_odd x
theorem jn_long {l : List (List ByteArray)} (h : l.any badL = false) {i : Nat} (hi : i < l.length) (hl : 64 < l[i].length) : jnE (unL l) = 4 := by
  rw [any_bad] at h
  refine jnE_many h (.inl ⟨unW l[i], List.mem_map_of_mem (List.getElem_mem hi), by simpa using hl⟩)
theorem jn_great {l : List (List ByteArray)} (h : l.any badL = false) (hs : 16384 < szT (unL l)) : jnE (unL l) = 4 := by
  rw [any_bad] at h
  exact jnE_many h (.inr hs)
theorem jn_fine {l : List (List ByteArray)} (h : l.any badL = false) (h2 : ∀ x ∈ l, x.length ≤ 64) (h3 : szT (unL l) ≤ 16384) : jnE (unL l) = 0 := by
  rw [any_bad] at h
  refine jnE_ok h (fun x hx => ?_) h3
  obtain ⟨y, hy, rfl⟩ := List.mem_map.1 hx
  simpa using h2 y hy
theorem JnR.no {l : List (List ByteArray)} {w w' : World} {c : Int} (h : jnE (unL l) = c) (hc : c ≠ 0) (hb : Below w.heap.size w w') : JnR l w (.returned (.tuple #[.string ⟨#[]⟩, .int .i64 c])) w' :=
  ⟨by rw [h, jnT_no (by rw [h]; exact hc)]; rfl, hb⟩
theorem JnR.yes {l : List (List ByteArray)} {w w' : World} (h : jnE (unL l) = 0) (hb : Below w.heap.size w w') : JnR l w (.returned (.tuple #[.string ⟨(textT (unL l)).toArray⟩, .int .i64 0])) w' :=
  ⟨by rw [h, jnT_ok h]; rfl, hb⟩

theorem bld_below {B b : Nat} {bs : List Value} {w w' : World} (h : Bld B b bs w) (hb : Below w.heap.size w w') : Bld B b bs w' := by
  have key : ∀ {p : Value}, Lib.BuilderAt 129 5 B b p bs w → Lib.BuilderAt 129 5 B b p bs w' := by
    rintro p ⟨h1, v, h2, h3, h4⟩
    exact ⟨h1, v, (hb.block b (Array.getElem?_eq_some_iff.1 h2).1).trans h2, ownsRow_below h3 hb, h4⟩
  rcases h with h | h
  · exact .inl (key h)
  · exact .inr (key h)
theorem cells_line (T : List UInt8) (x : List Word) : Lib.byteCells T ++ Lib.strCells (mk (Lib.join x [32])) ++ [.int .u8 10] = Lib.byteCells (T ++ lineT x) := by
  unfold lineT
  rw [Lib.strCells_eq, show (mk (Lib.join x [32])).data.toList = Lib.join x [32] from un_mk _, Lib.byteCells_append, Lib.byteCells_append, List.append_assoc]
  rfl

set_option maxRecDepth 100000 in
set_option maxHeartbeats 4000000 in
theorem join_calls (va : Value) (l : List (List ByteArray)) (w : World) (hl : LinesAt w va l) (hf : Fits l) (hgood : l.any badL = false) :
    Calls Tryz.prog 41 #[va] w (JnR l w) := by
  have HA := hid hl
  obtain ⟨ao, ac, rfl, hla⟩ := hl.slice
  have HF := hid hf
  have HG := hid hgood
  have hlen := hf.lines
  have hall := hf.all
  clear hl hf hgood
  go_enter Tryz.func41, Tryz.ntmps41
  go_wp2
  go_loopg [4, 14] l.length (fun gk sv iv wr => ∃ i : Nat, i + gk = l.length ∧ iv = .int .i64 i ∧ sv = .int .i64 (szT ((unL l).take i) : Nat) ∧ Hid (∀ j (h : j < l.length), j < i → l[j].length ≤ 64) ∧ Below w.heap.size w wr)
  case atStart => exact ⟨0, by omega, rfl, by simp [szT], (fun j h h2 => by omega), Below.refl _ _⟩
  case round =>
    obtain ⟨i, hi, rfl, rfl, HS, hbe⟩ := hrel
    have HI := hid hi
    have hst := szT_take_le (unL l) i
    by_cases hlt : i < l.length
    · obtain ⟨b, o, pv, rfl, hb0, hc, hp⟩ := (HA.out.below hbe).at i hlt
      have HSN := hid (szT_snoc hlt)
      have hst1 := szT_take_le (unL l) (i + 1)
      rw [HSN.out] at hst1
      have HSX : Hid (l[i].length ≤ 64 → ∀ j (h : j < l.length), j < i + 1 → l[j].length ≤ 64) := fun h j hj h2 => by
        by_cases e : j = i
        · subst e; exact h
        · exact HS.out j hj (by omega)
      have HLO := hid (jn_long HG.out hlt)
      have HSI := hid (HF.out.size _ (List.getElem_mem hlt))
      have hxw := HF.out.words _ (List.getElem_mem hlt)
      generalize l[i] = x at *
      have HP := hid hp
      obtain ⟨pa, pc, rfl, hpl⟩ := hp.slice
      generalize szT ((unL l).take i) = n at *
      clear hp hi
      by_cases h64 : 64 < x.length
      · have HE := hid (HLO.out h64)
        clear HP HSN HSX HLO HSI hst1
        generalize x.length = m at *
        go_wp2
        go_ret2
        exact JnR.no HE.out (by decide) hbe
      · have HS2 := hid (HSX.out (by omega))
        have hgl : ∀ k, szL ((unW x).take k) ≤ szL (unW x) := fun k => szL_take_le _ _
        have HGL := hid hgl
        clear hgl HSX HLO
        go_wp2
        obtain ⟨wo, hwo⟩ : ∃ wo : World, wo = wr := ⟨wr, rfl⟩
        subst hwo
        obtain ⟨go, hgo⟩ : ∃ go : Nat, go = gk := ⟨gk, rfl⟩
        subst hgo
        clear hc
        go_loopg [4, 23] x.length (fun gk nv jv wr => ∃ j : Nat, j + gk = x.length ∧ jv = .int .i64 j ∧ nv = .int .i64 ((n + szL ((unW x).take j) : Nat) : Int) ∧ Below wo.heap.size wo wr)
        case atStart => exact ⟨0, by omega, rfl, by simp [szL], Below.refl _ _⟩
        case round =>
          obtain ⟨j, hj, rfl, rfl, hbj⟩ := hrel
          have HJ := hid hj
          have hg1 := HGL.out j
          by_cases hjl : j < x.length
          · obtain ⟨xb, xo, rfl, _, cx⟩ := (HP.out.below hbj).at j hjl
            have HGS := hid (szL_snoc hjl)
            have hys := HSI.out _ (List.getElem_mem hjl)
            generalize x[j] = y at *
            generalize szL ((unW x).take j) = g at *
            clear hj
            go_wp2
            go_roundg (gk - 1)
            case measure => have := HJ.out; omega
            case rel => exact ⟨j + 1, by have := HJ.out; omega, by go_num, by rw [HGS.out]; go_num, hbj⟩
          · obtain rfl : j = x.length := by omega
            have hbb := hbe.trans (hbj.mono hbe.size)
            have e : (unW x).take x.length = unW x := List.take_of_length_le (by simp)
            rw [e] at *
            generalize szL (unW x) = g at *
            clear hj
            go_wp2
            go_roundg (go - 1)
            case measure => have := HI.out; omega
            case rel => exact ⟨i + 1, by have := HI.out; omega, by go_num, by rw [HSN.out]; go_num, HS2, hbb⟩
    · obtain rfl : i = l.length := by omega
      have e : (unL l).take l.length = unL l := List.take_of_length_le (by simp)
      rw [e] at *
      have HS2 : Hid (∀ x ∈ l, x.length ≤ 64) := fun x hx => by
        obtain ⟨k, hk, rfl⟩ := List.getElem_of_mem hx
        exact HS.out k hk hk
      have HGR := hid (jn_great HG.out)
      have HFI := hid (jn_fine HG.out HS2.out)
      have HT := hid (textT_length (l := unL l) (fun x hx => by
        have h := HG.out
        rw [any_bad] at h
        exact (oddL_false.1 (by simpa using List.any_eq_false.1 h x hx)).1))
      clear hi e
      generalize hsz : szT (unL l) = sz at *
      by_cases hbig : 16384 < sz
      · have HE := hid (HGR.out hbig)
        clear HGR HFI HS2 HS HF HT hsz
        go_wp2
        go_ret2
        exact JnR.no HE.out (by decide) hbe
      · have HE := hid (HFI.out (by omega))
        have hsz2 : szT (unL l) ≤ 16384 := by rw [hsz]; omega
        have HSZ := hid hsz2
        clear HGR HFI HS2 HS hsz hsz2
        obtain ⟨wo, hwo⟩ : ∃ wo : World, wo = wr := ⟨wr, rfl⟩
        subst hwo
        have HB0 : Hid (Bld wo.heap.size wo.heap.size (Lib.byteCells (textT ((unL l).take 0))) (wo.alloc (.cells #[.pointer none, .slice none 0 0] 129))) := Lib.fresh_isBuilder _ _ wo
        have HBA := hid (alloc_below wo (.cells #[.pointer none, .slice none 0 0] 129))
        have HBE := hid hbe
        have HLT := hid (fun x (hx : x ∈ l) => lineT_length (x := unW x) (by
          have h := HG.out
          have := List.any_eq_false.1 h x hx
          rw [badL_odd] at this
          exact (oddL_false.1 (by simpa using this)).1))
        clear hbe hlt
        go_wp2
        go_loopg [38] l.length (fun gk iv wx => ∃ k : Nat, k + gk = l.length ∧ iv = .int .i64 k ∧ Hid (Bld wo.heap.size wo.heap.size (Lib.byteCells (textT ((unL l).take k))) wx) ∧ Hid (Below wo.heap.size wo wx))
        case atStart => exact ⟨0, by omega, rfl, HB0, HBA⟩
        case round =>
          obtain ⟨k, hk, rfl, HBL, HBW⟩ := hrel
          have HK := hid hk
          by_cases hlt : k < l.length
          · have hbw := HBE.out.trans (HBW.out.mono HBE.out.size)
            obtain ⟨b, o, pv, rfl, hb0, hc, hp⟩ := (HA.out.below hbw).at k hlt
            have hxl := HLT.out _ (List.getElem_mem hlt)
            have hxw := HF.out.words _ (List.getElem_mem hlt)
            have h1 := szT_take_le (unL l) (k + 1)
            rw [szT_snoc hlt] at h1
            have h2 := HSZ.out
            have HTN : Hid (textT ((unL l).take (k + 1)) = textT ((unL l).take k) ++ lineT (unW l[k])) := by
              show _ = _
              have h2 : k < (unL l).length := by simpa using hlt
              rw [List.take_succ_eq_append_getElem h2, textT_append, textT_one]
              simp only [List.getElem_map]
            have HTL : Hid ((textT ((unL l).take k)).length ≤ 16384) := by
              show _ ≤ _
              rw [textT_length (l := (unL l).take k) (fun x hx => by
                obtain ⟨y, hy, rfl⟩ := List.mem_map.1 (List.mem_of_mem_take hx)
                have := List.any_eq_false.1 HG.out y hy
                rw [badL_odd] at this
                exact (oddL_false.1 (by simpa using this)).1)]
              have := szT_take_le (unL l) k
              omega
            generalize l[k] = x at *
            have hjl : (Lib.join (x.map (·.data.toList)) [32]).length ≤ 16384 := by
              unfold lineT at hxl
              rw [List.length_append] at hxl
              have : (Lib.join (unW x) [32]).length + 1 = szL (unW x) := hxl
              have e : (Lib.join (x.map (·.data.toList)) [32]).length = (Lib.join (unW x) [32]).length := rfl
              omega
            have HC := hid (joinS_calls pv x wr hp (by omega) (by omega))
            have HCL := hid (cells_line (textT ((unL l).take k)) (unW x))
            change Hid (Lib.byteCells _ ++ Lib.strCells ⟨(Lib.join (x.map (·.data.toList)) [32]).toArray⟩ ++ _ = _) at HCL
            rw [← HTN.out] at HCL
            have hys : (⟨(Lib.join (x.map (·.data.toList)) [32]).toArray⟩ : ByteArray).size ≤ 16384 := by rw [show (⟨(Lib.join (x.map (·.data.toList)) [32]).toArray⟩ : ByteArray) = mk (Lib.join (x.map (·.data.toList)) [32]) from rfl, mk_size]; exact hjl
            generalize (⟨(Lib.join (x.map (·.data.toList)) [32]).toArray⟩ : ByteArray) = y at *
            generalize hT : textT ((unL l).take k) = T at *
            have hbl : (Lib.byteCells T).length ≤ 16384 := by rw [Lib.byteCells_length]; exact HTL.out
            generalize Lib.byteCells T = bs at *
            obtain ⟨pa, pc, rfl, hpl⟩ := hp.slice
            clear hp hk hT HTN HTL hxl hjl h1 h2 hbw
            go_wp2_with fail
            refine HC.out.mono ?_
            rintro e w1 ⟨rfl, hb1⟩
            have HB1 := hid (bld_below HBL.out hb1)
            have HW1 := hid (HBW.out.trans (hb1.mono HBW.out.size))
            have HS1 := hid (writeS_calls _ _ _ y w1 HB1.out (by omega) HW1.out.size)
            clear hb1 HC hc
            go_wp2_with fail
            refine HS1.out.mono ?_
            rintro e w2 ⟨rfl, h2, hb2⟩
            have HW2 := hid (HW1.out.trans hb2)
            have HS2 := hid (writeB_calls _ _ _ 10 w2 (.inr h2) (by rw [List.length_append, Lib.strCells_length]; omega) HW2.out.size)
            clear h2 hb2 HS1
            go_wp2_with fail
            refine HS2.out.mono ?_
            rintro e w3 ⟨rfl, h3, hb3⟩
            have HW3 := hid (HW2.out.trans hb3)
            rw [HCL.out] at h3
            have H3 := hid (Or.inr h3 : Bld wo.heap.size wo.heap.size (Lib.byteCells (textT ((unL l).take (k + 1)))) w3)
            clear h3 hb3 HS2 HCL
            go_wp2
            go_roundg (gk - 1)
            case measure => have := HK.out; omega
            case rel => exact ⟨k + 1, by have := HK.out; omega, by go_num, H3, HW3⟩
          · obtain rfl : k = l.length := by omega
            have e : (unL l).take l.length = unL l := List.take_of_length_le (by simp)
            rw [e] at HBL
            have HST := hid (Tryz.Builder_String_any _ _ _ wr HBL.out HBW.out.size)
            have HF2 := hid (HBE.out.trans (HBW.out.mono HBE.out.size))
            have HSZ2 := hid HBE.out.size
            clear hk e
            go_wp2_with fail
            refine HST.out.mono ?_
            rintro e w1 ⟨rfl, hb1⟩
            have hbf := HBE.out.trans ((HBW.out.trans hb1).mono HBE.out.size)
            clear hb1 HST
            go_wp2
            go_ret2
            exact JnR.yes HE.out hbf
end Go.Proofs.YtbebficgcemkoaaGreatDoor.LxN
namespace Go.Proofs.YtbebficgcemkoaaGreatDoor.LxT
open Go.RowKit Go.Lib LxM LxP LxK LxJ LxS LxY LxO LxB LxN

set_option maxHeartbeats 1000000 in
theorem joinC_calls (va : Value) (l : List (List ByteArray)) (w : World) (hl : LinesAt w va l) (hf : Fits l) (ht : Tab w) :
    Calls Tryz.prog 21 #[va] w (JnR l w) := by
  have HC := hid (conL_calls va l w hl (fun x hx y hy => by have := hf.size x hx y hy; omega) ht)
  have HJ := hid (fun (h : l.any badL = false) (w1 : World) (hb : Below w.heap.size w w1) => join_calls va l w1 (hl.below hb) hf h)
  have HO := hid (fun (h : l.any badL = true) => jnE_odd (l := unL l) (by rw [← any_bad]; exact h))
  obtain ⟨ao, ac, rfl, hla⟩ := hl.slice
  clear hl hf ht
  generalize l.any badL = b at *
  cases b with
  | true =>
    have HE := hid (HO.out rfl)
    clear HO HJ
    go_enter Tryz.func21, Tryz.ntmps21
    go_wp2_with fail
    refine HC.out.mono ?_
    rintro e w1 ⟨rfl, hb⟩
    go_wp2
    go_ret2
    exact JnR.no HE.out (by decide) hb
  | false =>
    have HJ2 := hid (HJ.out rfl)
    clear HO HJ
    go_enter Tryz.func21, Tryz.ntmps21
    go_wp2_with fail
    refine HC.out.mono ?_
    rintro e w1 ⟨rfl, hb⟩
    have HJ3 := hid (HJ2.out w1 hb)
    go_wp2_with fail
    refine HJ3.out.mono ?_
    rintro e w2 ⟨rfl, hb2⟩
    have hbb := hb.trans (hb2.mono hb.size)
    go_wp2
    go_ret2
    exact ⟨rfl, hbb⟩

theorem kind_no {c : UInt8} (h : c.toNat = 32 ∨ c.toNat = 9 ∨ c.toNat = 13 ∨ c.toNat = 10 ∨ c.toNat = 35) : kindB c ≠ 0 := by
  unfold kindB
  (repeat' split) <;> omega
theorem kind_yes {c : UInt8} (h : ¬ (c.toNat = 32 ∨ c.toNat = 9 ∨ c.toNat = 13 ∨ c.toNat = 10 ∨ c.toNat = 35)) : kindB c = 0 := by
  unfold kindB
  (repeat' split) <;> omega

set_option maxHeartbeats 2000000 in
theorem mayR_calls (x : ByteArray) (hs : x.size ≤ 9223372036854775807) (w : World) :
    Calls Tryz.prog 103 #[.string x] w (BoolR (mayB (un x)) w) := by
  have HY := hid (may_yes (x := x))
  have HNO := hid (fun k h => may_no (x := x) (k := k) h)
  go_enter Tryz.func103, Tryz.ntmps103
  go_wp2
  go_loopg [3] x.size (fun gk i wr => ∃ k : Nat, k + gk = x.size ∧ i = .int .i64 k ∧ Hid (∀ j, j < k → kindS x j = 0) ∧ Below w.heap.size w wr)
  case atStart => exact ⟨0, by omega, rfl, (fun j h => by omega), Below.refl _ _⟩
  case round =>
    obtain ⟨k, hk, rfl, HA, hbe⟩ := hrel
    have HK := hid hk
    by_cases hlt : k < x.size
    · have hin := kindS_in hlt
      have h255 := u8_le x[k]
      have HN := hid (fun h => HNO.out k hlt (by rw [hin]; exact kind_no h))
      have HA2 : Hid (¬ (x[k].toNat = 32 ∨ x[k].toNat = 9 ∨ x[k].toNat = 13 ∨ x[k].toNat = 10 ∨ x[k].toNat = 35) → ∀ j, j < k + 1 → kindS x j = 0) := fun h j hj => by
        by_cases e : j = k
        · rw [e, hin]; exact kind_yes h
        · exact HA.out j (by omega)
      clear hk hin
      by_cases h32 : x[k].toNat = 32
      · have HE := hid (HN.out (by omega))
        have e32 : ((x[k].toNat : Int) == 32) = true := beq_iff_eq.2 (by omega)
        clear HN HA2 h32
        go_wp2
        go_ret
        exact ⟨by rw [HE.out]; rfl, hbe⟩
      by_cases h9 : x[k].toNat = 9
      · have HE := hid (HN.out (by omega))
        have e32 : ((x[k].toNat : Int) == 32) = false := beq_eq_false_iff_ne.2 (by omega)
        have e9 : ((x[k].toNat : Int) == 9) = true := beq_iff_eq.2 (by omega)
        clear HN HA2 h32 h9
        go_wp2
        go_ret
        exact ⟨by rw [HE.out]; rfl, hbe⟩
      by_cases h13 : x[k].toNat = 13
      · have HE := hid (HN.out (by omega))
        have e32 : ((x[k].toNat : Int) == 32) = false := beq_eq_false_iff_ne.2 (by omega)
        have e9 : ((x[k].toNat : Int) == 9) = false := beq_eq_false_iff_ne.2 (by omega)
        have e13 : ((x[k].toNat : Int) == 13) = true := beq_iff_eq.2 (by omega)
        clear HN HA2 h32 h9 h13
        go_wp2
        go_ret
        exact ⟨by rw [HE.out]; rfl, hbe⟩
      by_cases h10 : x[k].toNat = 10
      · have HE := hid (HN.out (by omega))
        have e32 : ((x[k].toNat : Int) == 32) = false := beq_eq_false_iff_ne.2 (by omega)
        have e9 : ((x[k].toNat : Int) == 9) = false := beq_eq_false_iff_ne.2 (by omega)
        have e13 : ((x[k].toNat : Int) == 13) = false := beq_eq_false_iff_ne.2 (by omega)
        have e10 : ((x[k].toNat : Int) == 10) = true := beq_iff_eq.2 (by omega)
        clear HN HA2 h32 h9 h13 h10
        go_wp2
        go_ret
        exact ⟨by rw [HE.out]; rfl, hbe⟩
      by_cases h35 : x[k].toNat = 35
      · have HE := hid (HN.out (by omega))
        have e32 : ((x[k].toNat : Int) == 32) = false := beq_eq_false_iff_ne.2 (by omega)
        have e9 : ((x[k].toNat : Int) == 9) = false := beq_eq_false_iff_ne.2 (by omega)
        have e13 : ((x[k].toNat : Int) == 13) = false := beq_eq_false_iff_ne.2 (by omega)
        have e10 : ((x[k].toNat : Int) == 10) = false := beq_eq_false_iff_ne.2 (by omega)
        have e35 : ((x[k].toNat : Int) == 35) = true := beq_iff_eq.2 (by omega)
        clear HN HA2 h32 h9 h13 h10 h35
        go_wp2
        go_ret
        exact ⟨by rw [HE.out]; rfl, hbe⟩
      have HA3 := hid (HA2.out (by omega))
      have e32 : ((x[k].toNat : Int) == 32) = false := beq_eq_false_iff_ne.2 (by omega)
      have e9 : ((x[k].toNat : Int) == 9) = false := beq_eq_false_iff_ne.2 (by omega)
      have e13 : ((x[k].toNat : Int) == 13) = false := beq_eq_false_iff_ne.2 (by omega)
      have e10 : ((x[k].toNat : Int) == 10) = false := beq_eq_false_iff_ne.2 (by omega)
      have e35 : ((x[k].toNat : Int) == 35) = false := beq_eq_false_iff_ne.2 (by omega)
      clear HN HA2 h32 h9 h13 h10 h35
      go_wp2
      go_roundg (gk - 1)
      case measure => have := HK.out; omega
      case rel => exact ⟨k + 1, by have := HK.out; omega, by go_num, HA3, hbe⟩
    · obtain rfl : k = x.size := by omega
      have HE := hid (HY.out HA.out)
      clear hk
      go_wp2
      go_ret
      exact ⟨by rw [HE.out]; show Ending.returned (Value.bool (!x.toList.isEmpty)) = _; rw [Lib.toList_data], hbe⟩
end Go.Proofs.YtbebficgcemkoaaGreatDoor.LxT
