/- Walks over lex.kind, lex.kindAt and strings.Clone. strings.Builder in a call of its own: WriteString, WriteByte, String; strings.Join. A scope in which the run jumps to several labels: what holds at each jump, and a measure that every pass from a label lowers. And: what is known of lex.Lines at its labels. What Mark answers: 'mkN'. Walk over fescueref05.Mark. Plain facts of reading: what words tell. Plain facts of reading, whole: what an instruction has, instructions, blocks, functions, programs; the same as a reader goes, word by word. Plain facts of reading: blocks, functions and programs, of lines. Plain facts of writing: a program's own lines; what is written is read as that; what is read was written so. Plain facts of writing: instructions, ends, blocks, functions, programs, there and back. Plain facts of writing: ends, blocks, functions, programs, there and back. -/
import Derived.Test.YtbebficgcemkoaaGreatDoorZLxM
import Derived.Test.YtbebficgcemkoaaGreatDoorZLxP
import Derived.Test.YtbebficgcemkoaaGreatDoorZShelfToShelfB
import Derived.Scope
import Derived.WalkMore
import Derived.Test.YtbebficgcemkoaaGreatDoorZNumRPToNumH
import Derived.Test.YtbebficgcemkoaaGreatDoorZTyMToShN
namespace Go.Proofs.YtbebficgcemkoaaGreatDoor.LxK
open Go.RowKit Go.Lib LxM LxP

/-- the program's table, as its initialiser lays it -/
def kT : List Nat := [0, 0, 0, 0, 0, 0, 0, 0, 0, 1, 2, 0, 0, 1, 0, 0, 0, 0, 0, 0, 0, 0, 0, 0, 0, 0, 0, 0, 0, 0, 0, 0, 1, 0, 0, 3]
def TabK (g : Nat) (tab : List Nat) (w : World) : Prop := ∀ j, j < tab.length → w.cell? ⟨g, j, none⟩ = some (.int .u8 (tab.getD j 0))
def Tab (w : World) : Prop := TabK 3 kT w
theorem tab_on {g : Nat} {tab : List Nat} {w w1 : World} (h : TabK g tab w) (hb : Below w.heap.size w w1) : TabK g tab w1 := by
 intro j hj
 have h1 := h j hj
 rw [hb.cell (p := ⟨g, j, none⟩) (World.block_lt_of_cell? w _ h1)]
 exact h1
theorem Tab.on {w w1 : World} (h : Tab w) (hb : Below w.heap.size w w1) : Tab w1 := tab_on h hb
theorem kT_at : ∀ n : Fin 36, kT.getD n.val 0 = kindB (UInt8.ofNat n.val) := by decide
theorem kind_tab (c : UInt8) (h : c.toNat < 36) : kT.getD c.toNat 0 = kindB c := by
 have := kT_at ⟨c.toNat, h⟩
 simpa using this
theorem kind_over (c : UInt8) (h : ¬ c.toNat < 36) : kindB c = 0 := by
 have := kind_le c
 have h1 : kindB c ≠ 1 := fun e => by have := kind_blank.1 e; omega
 have h2 : kindB c ≠ 2 := fun e => by have := kind_feed.1 e; omega
 have h3 : kindB c ≠ 3 := fun e => by have := kind_hash.1 e; omega
 omega

theorem kind_core (n k : Nat) (w : World) (hn : n < 36) (hcell : w.cell? ⟨3, n, none⟩ = some (.int .u8 k)) :
  Calls Tryz.prog 128 #[.int .i32 n] w fun e w' => e = .returned (.int .u8 k) ∧ w = w' := by
 go_enter Tryz.func128, Tryz.ntmps128
 go_wp2
 go_ret
 exact ⟨rfl, rfl⟩
theorem kind_out (n : Nat) (w : World) (hn : ¬ n < 36) (hm : n ≤ 255) :
  Calls Tryz.prog 128 #[.int .i32 n] w fun e w' => e = .returned (.int .u8 0) ∧ w = w' := by
 go_enter Tryz.func128, Tryz.ntmps128
 go_wp2
 go_ret
 exact ⟨rfl, rfl⟩
theorem u8_le (c : UInt8) : c.toNat ≤ 255 := by have := c.toNat_lt; omega
theorem kind_calls (c : UInt8) (w : World) (ht : Tab w) :
  Calls Tryz.prog 128 #[.int .i32 (c.toNat : Int)] w fun e w' => e = .returned (.int .u8 (kindB c : Nat)) ∧ w = w' := by
 by_cases h : c.toNat < 36
 ·have hc := ht c.toNat h
  rw [kind_tab c h] at hc
  exact kind_core _ _ w h hc
 ·rw [kind_over c h]
  exact kind_out _ w h (u8_le c)

/-- what the byte at a place is; behind the last one a line feed -/
def kindS (s : ByteArray) (k : Nat) : Nat := if h : k < s.size then kindB s[k] else 2
theorem kindS_in {s : ByteArray} {k : Nat} (h : k < s.size) : kindS s k = kindB s[k] := dif_pos h
theorem kindS_end (s : ByteArray) : kindS s s.size = 2 := dif_neg (by omega)
theorem kindAt_calls (s : ByteArray) (k : Nat) (hk : k ≤ s.size) (w : World) (ht : Tab w) :
  Calls Tryz.prog 69 #[.string s, .int .i64 k] w fun e w' => e = .returned (.int .u8 (kindS s k : Nat)) ∧ w = w' := by
 by_cases h : k < s.size
 ·rw [kindS_in h]
  have HC := hid (kind_calls s[k] w ht)
  have h255 := u8_le s[k]
  have hne : ((k : Int) == (s.size : Int)) = false := beq_eq_false_iff_ne.2 (by omega)
  clear ht
  go_enter Tryz.func69, Tryz.ntmps69
  go_wp2_with fail
  refine HC.out.mono ?_
  rintro e w1 ⟨rfl, rfl⟩
  go_wp2
  go_ret
  exact ⟨rfl, rfl⟩
 ·obtain rfl : k = s.size := by omega
  rw [kindS_end]
  go_enter Tryz.func69, Tryz.ntmps69
  go_wp2
  go_ret
  exact ⟨rfl, rfl⟩

end Go.Proofs.YtbebficgcemkoaaGreatDoor.LxK
namespace Go.Proofs.YtbebficgcemkoaaGreatDoor.LxB
open Go.RowKit Go.Lib Go.Shelf LxM LxP LxK

/-- a builder that holds these bytes -/
abbrev Bld (B b : Nat) (bs : List Value) (w : World) : Prop := Lib.IsBuilder 129 5 B b bs w

theorem check_calls (B b : Nat) (bs : List Value) (w : World) (h : Bld B b bs w) :
  Calls Tryz.prog 137 #[.pointer (some ⟨b, 0, none⟩)] w fun e w' => e = .returned (.tuple #[]) ∧ (Lib.BuilderAt 129 5 B b (.pointer (some ⟨b, 0, none⟩)) bs w' ∧ Below B w w') :=
 Any.Builder_copyCheck { Tryz.lays156 with } Tryz.Builder_Extra_156.toX72 B b bs w h
theorem writeS_calls (B b : Nat) (bs : List Value) (s : ByteArray) (w : World) (h : Bld B b bs w) (hlen : bs.length + s.size ≤ 140737488355328) (hBw : B ≤ w.heap.size) :
  Calls Tryz.prog 88 #[.pointer (some ⟨b, 0, none⟩), .string s] w fun e w' => e = .returned (.tuple #[.int .i64 s.size, .nilIface]) ∧ (Lib.BuilderAt 129 5 B b (.pointer (some ⟨b, 0, none⟩)) (bs ++ Lib.strCells s) w' ∧ Below B w w') :=
 Any.Builder_WriteString { Tryz.lays156 with } Tryz.Builder_Extra_156 B b bs s w h hlen hBw
theorem info_byte : (Tryz.prog.info? 5).map (fun i => (i.zero, i.size, i.bytes)) = some (some (.int .u8 0), 1, 1) := by kernel_rfl

set_option maxHeartbeats 2000000 in
theorem writeB_calls (B b : Nat) (bs : List Value) (c : Int) (w : World) (h : Bld B b bs w) (hlen : bs.length + 1 ≤ 140737488355328) (hBw : B ≤ w.heap.size) :
  Calls Tryz.prog 90 #[.pointer (some ⟨b, 0, none⟩), .int .u8 c] w fun e w' => e = .returned .nilIface ∧ (Lib.BuilderAt 129 5 B b (.pointer (some ⟨b, 0, none⟩)) (bs ++ [.int .u8 c]) w' ∧ Below B w w') := by
 obtain ⟨i0, hi, hz0, hz1, hz2⟩ := info_parts info_byte
 go_enter Tryz.func90, Tryz.ntmps90
 go_wp2_with fail
 refine (check_calls B b bs _ h).mono ?_
 rintro e w1 ⟨rfl, h1, hb1⟩
 obtain ⟨hB, v, hbk, hown, hne⟩ := h1
 have c0 : w1.cell? ⟨b, 0, none⟩ = some (.pointer (some ⟨b, 0, none⟩)) := by rw [Lib.cell_of_heap hbk]; rfl
 have c1 : w1.cell? ⟨b, 1, none⟩ = some v := by rw [Lib.cell_of_heap hbk]; rfl
 go_wp2_with (at_builtin; refine wpList_append_own _ rfl _ _ 87 rfl B 5 i0 (.int .u8 0) 1 1 Tryz.underlying87 hi hz0 hz1 hz2 rfl (by decide) _ _ _ rfl (hown.alloc _) ⟨w1.heap.size, 0, none⟩ 1 1 [.int .u8 c] rfl rfl ?c1 ?c2 ?c3 ?c4 ?c5 ?_)
 case c1 =>
  intro j u hj
  match j, hj with
  | 0, hj => simp at hj; subst hj; simp [Addr.add]
 case c2 => intro u hu; simp at hu; subst hu; rfl
 case c3 => unfold maxLen; omega
 case c4 => omega
 case c5 => have := hb1.size; simp; omega
 intro v' w2 hown' hgrow _
 have hlt : b < w1.heap.size := by
  rcases Nat.lt_or_ge b w1.heap.size with h' | h'
  ·exact h'
  ·simp [Array.getElem?_eq_none h'] at hbk
 have hb2 : w2.heap[b]? = some (.cells #[.pointer (some ⟨b, 0, none⟩), v] 129 (0, 0)) := by
  rw [hgrow.block b (by simp; omega) (fun e => hne e.symm), Lib.alloc_old w1 _ b hlt]
  exact hbk
 have d0 : w2.cell? ⟨b, 0, none⟩ = some (.pointer (some ⟨b, 0, none⟩)) := by rw [Lib.cell_of_heap hb2]; rfl
 have d1 : w2.cell? ⟨b, 1, none⟩ = some v := by rw [Lib.cell_of_heap hb2]; rfl
 have f1 : w2.frozen? ⟨b, 1, none⟩ = false := Lib.frozen_of_heap hb2 1
 obtain ⟨g, cap, rfl⟩ : ∃ g cap, v' = .slice (some ⟨g, 0, none⟩) (bs.length + 1) cap := by
  rcases hown'.2 with ⟨_, h0⟩ | ⟨g, cap, cur, hv, _⟩
  ·omega
  ·exact ⟨g, cap, hv⟩
 go_wp2
 go_ret
 refine ⟨rfl, ?_, ?_⟩
 ·exact Lib.BuilderAt.put (T := 129) (e := 5) hB hb2 (bs' := bs ++ [.int .u8 c]) (by simpa using hown') (by decide)
 ·exact ((hb1.alloc (by have := hb1.size; omega) _).grown hgrow (by have := hb1.size; simp; omega) (fun k hk => (hown.lt k hk).1)).setCell (p := ⟨b, 1, none⟩) hB _

/-- strings.Join of words in memory, with a space between -/
theorem joinS_calls (va : Value) (l : List ByteArray) (w : World) (hl : StrsAt w va l) (hN : l.length ≤ 100000) (hlen : (Lib.join (l.map (·.data.toList)) [32]).length ≤ 1000000) :
  Calls Tryz.prog 89 #[va, .string ⟨#[32]⟩] w fun e w' => e = .returned (.string ⟨(Lib.join (l.map (·.data.toList)) [32]).toArray⟩) ∧ Below w.heap.size w w' := by
 obtain ⟨ao, ac, rfl, hla⟩ := hl.slice
 by_cases h0 : l = []
 ·subst h0
  refine (Any.strings_Join_none Tryz.lays156 Tryz.Builder_Extra_156 ao ac ⟨#[32]⟩ w).mono ?_
  rintro e w' ⟨rfl, rfl⟩
  exact ⟨rfl, Below.refl _ _⟩
 ·have hpos : 0 < l.length := by
   cases l with
   | nil => exact absurd rfl h0
   | cons a t => simp
  obtain ⟨b, o, rfl, hb, _⟩ := hl.at 0 hpos
  have hcap : l.length ≤ ac := by
   have := ListAt.cap hl
   simpa using this
  exact Tryz.strings_Join b o ac l ⟨#[32]⟩ w (fun j x hx => by
   obtain ⟨hj, rfl⟩ := List.getElem?_eq_some_iff.1 hx
   obtain ⟨b2, o2, e, _, hc⟩ := hl.at j hj
   cases e
   exact hc) hb (by omega) hcap (by simpa using Nat.le_trans hlen (by decide))
end Go.Proofs.YtbebficgcemkoaaGreatDoor.LxB
namespace Go.Proofs.YtbebficgcemkoaaGreatDoor.LxJ
open Go.RowKit Go.Lib LxM LxP LxK

/-! strings and lists of bytes -/
def mk (l : Word) : ByteArray := ⟨l.toArray⟩
abbrev un (x : ByteArray) : Word := x.data.toList
theorem mk_un (x : ByteArray) : mk (un x) = x := Lib.mk_data x
theorem un_mk (l : Word) : un (mk l) = l := by simp [mk]
theorem un_len (x : ByteArray) : (un x).length = x.size := Array.length_toList
theorem mk_size (l : Word) : (mk l).size = l.length := by rw [← un_len, un_mk]
abbrev mkW (l : List Word) : List ByteArray := l.map mk
abbrev mkL (l : List (List Word)) : List (List ByteArray) := l.map mkW
abbrev unW (l : List ByteArray) : List Word := l.map un
abbrev unL (l : List (List ByteArray)) : List (List Word) := l.map unW
/-! what is known of lex.Lines at its labels -/
abbrev stA (s : ByteArray) (k : Nat) : MSt := runB ((un s).take k)
theorem at_byte {s : ByteArray} {k : Nat} (h : k < s.size) : ∃ h2 : k < (un s).length, (un s)[k] = s[k] := ⟨by rw [un_len]; exact h, rfl⟩
theorem stA_next {s : ByteArray} {k : Nat} (h : k < s.size) : stA s (k + 1) = mstep (stA s k) s[k] := by
 obtain ⟨h2, e⟩ := at_byte h
 unfold stA
 rw [List.take_succ_eq_append_getElem h2, runB_snoc, e]
theorem stA_end (s : ByteArray) : stA s s.size = runB (un s) := by
 unfold stA
 rw [List.take_of_length_le (by rw [un_len]; exact Nat.le_refl _)]

/-- lines and words so far -/
def Has (s : ByteArray) (w : World) (lv wv : Value) (k : Nat) (W : List Word) (wr : World) : Prop :=
 k ≤ s.size ∧ (∀ x ∈ (stA s k).1, x.length ≤ 64) ∧
 ∃ (r : List Rw) (wk : World), r.map Prod.fst = mkL ((stA s k).1.filter full) ∧ OwnL w.heap.size lv r wk ∧ Below w.heap.size w wk ∧ Below wk.heap.size wk wr ∧ wr.ownsRow wk.heap.size 9 1 wv W.length (strs (mkW W))
def H0 (s : ByteArray) (w : World) (lv wv : Value) (k : Nat) (wr : World) : Prop :=
 Has s w lv wv k (push (stA s k).2.1 (stA s k).2.2.1) wr ∧ ((stA s k).2.2.1 ≠ [] → kindS s k ≠ 0) ∧ ((stA s k).2.2.2 = true → kindS s k = 2)
def H1 (s : ByteArray) (w : World) (lv wv : Value) (k : Nat) (wr : World) : Prop :=
 Has s w lv wv k (push (stA s k).2.1 (stA s k).2.2.1) wr ∧ ((stA s k).2.2.2 = true ∨ kindS s k = 3)
def H2 (s : ByteArray) (w : World) (lv wv : Value) (k f : Nat) (wr : World) : Prop :=
 Has s w lv wv k (stA s k).2.1 wr ∧ (stA s k).2.2.2 = false ∧ f < k ∧ (stA s k).2.2.1 = ((un s).drop f).take (k - f)

theorem Has.le {s : ByteArray} {w wr : World} {lv wv : Value} {k : Nat} {W : List Word} (h : Has s w lv wv k W wr) : k ≤ s.size := h.1
theorem Has.same {s : ByteArray} {w wr : World} {lv wv : Value} {k j : Nat} {W V : List Word} (h : Has s w lv wv k W wr) (hj : j ≤ s.size) (hd : (stA s j).1 = (stA s k).1) (hw : V = W) : Has s w lv wv j V wr := by
 subst hw
 obtain ⟨_, h2, h3⟩ := h
 refine ⟨hj, ?_, ?_⟩ <;> rw [hd] <;> assumption
/-- at the beginning -/
theorem H0.start (s : ByteArray) (w : World) : H0 s w (.slice none 0 0) (.slice none 0 0) 0 w := by
 refine ⟨⟨Nat.zero_le _, by simp [stA, runB], [], w, by simp [stA, runB], OwnL.nil _ _, Below.refl _ _, Below.refl _ _, ?_⟩, ?_, ?_⟩
 ·simp only [stA, List.take_zero, runB, List.foldl_nil, w0, push_nil]
  exact World.ownsRow_nil _ _ _ _
 ·simp [stA, runB, w0]
 ·simp [stA, runB, w0]
/-- the state at a place, part by part -/
theorem st_parts (s : ByteArray) (k : Nat) : ∃ d a b f, stA s k = (d, a, b, f) := ⟨_, _, _, _, rfl⟩
theorem Has.lt {s : ByteArray} {w wr : World} {lv wv : Value} {k : Nat} {W : List Word} (h : Has s w lv wv k W wr) (hk : kindS s k ≠ 2) : k < s.size := by
 have := h.le
 by_cases e : k = s.size
 ·rw [e, kindS_end] at hk; omega
 ·omega
/-- a word begins -/
theorem H0.word {s : ByteArray} {w wr : World} {lv wv : Value} {k : Nat} (h : H0 s w lv wv k wr) (hk : kindS s k = 0) : H2 s w lv wv (k + 1) k wr := by
 obtain ⟨h1, h2, h3⟩ := h
 have hlt := h1.lt (by omega)
 have hkb := hk
 rw [kindS_in hlt] at hkb
 have hn := stA_next hlt
 rw [mstep_in (by omega)] at hn
 obtain ⟨d, a, b, f, hst⟩ := st_parts s k
 rw [hst] at hn h1 h2 h3
 cases f with
 | true => have := h3 rfl; omega
 | false =>
  have hb : b = [] := by
   cases b with
   | nil => rfl
   | cons x y => exact absurd hk (h2 (by simp))
  subst hb
  rw [wstep_word (by omega) (by omega)] at hn
  obtain ⟨h2', e⟩ := at_byte hlt
  refine ⟨h1.same (by omega) (by rw [hn, hst]) (by rw [hn]; exact (push_nil _).symm), by rw [hn], by omega, ?_⟩
  rw [hn, List.drop_eq_getElem_cons h2', e, show k + 1 - k = 1 by omega]
  rfl
/-- a word goes on -/
theorem H2.word {s : ByteArray} {w wr : World} {lv wv : Value} {k f0 : Nat} (h : H2 s w lv wv k f0 wr) (hk : kindS s k = 0) : H2 s w lv wv (k + 1) f0 wr := by
 obtain ⟨h1, h2, h3, h4⟩ := h
 have hlt := h1.lt (by omega)
 have hkb := hk
 rw [kindS_in hlt] at hkb
 have hn := stA_next hlt
 rw [mstep_in (by omega)] at hn
 obtain ⟨d, a, b, f, hst⟩ := st_parts s k
 rw [hst] at hn h1 h2 h4
 simp only at h2 h4
 subst h2
 rw [wstep_word (by omega) (by omega)] at hn
 obtain ⟨h2', e⟩ := at_byte hlt
 refine ⟨h1.same (by omega) (by rw [hn, hst]) (by rw [hn]), by rw [hn], by omega, ?_⟩
 rw [hn, h4, show k + 1 - f0 = (k - f0) + 1 by omega, List.take_succ_eq_append_getElem (by rw [List.length_drop]; omega), List.getElem_drop]
 have e3 : f0 + (k - f0) = k := by omega
 simp only [e3, e]
/-- behind a # -/
theorem H1.on {s : ByteArray} {w wr : World} {lv wv : Value} {k : Nat} (h : H1 s w lv wv k wr) (hk : kindS s k ≠ 2) : H1 s w lv wv (k + 1) wr := by
 obtain ⟨h1, h2⟩ := h
 have hlt := h1.lt hk
 rw [kindS_in hlt] at hk h2
 have hn := stA_next hlt
 rw [mstep_in hk] at hn
 obtain ⟨d, a, b, f, hst⟩ := st_parts s k
 rw [hst] at hn h1 h2
 cases f with
 | true =>
  rw [wstep_hash rfl] at hn
  exact ⟨h1.same (by omega) (by rw [hn, hst]) (by rw [hn]), .inl (by rw [hn])⟩
 | false =>
  have h3 : kindB s[k] = 3 := by rcases h2 with h | h; · cases h
                                 · exact h
  rw [wstep_at h3] at hn
  exact ⟨h1.same (by omega) (by rw [hn, hst]) (by rw [hn]; exact push_nil _), .inl (by rw [hn])⟩
/-- the word that ends -/
def wordA (s : ByteArray) (f k : Nat) : ByteArray := s.extract f k
theorem un_wordA (s : ByteArray) (f k : Nat) : un (wordA s f k) = ((un s).drop f).take (k - f) := Lib.extract_data s f k
/-- a word more -/
theorem H2.push {s : ByteArray} {w wr w2 : World} {lv wv wv2 : Value} {k f0 : Nat} (h : H2 s w lv wv k f0 wr) (hk : kindS s k ≠ 0) (wk : World) (hw2 : Below wk.heap.size wk w2) (r : List Rw)
  (hr : r.map Prod.fst = mkL ((stA s k).1.filter full)) (ho : OwnL w.heap.size lv r wk) (hwk : Below w.heap.size w wk)
  (hown : w2.ownsRow wk.heap.size 9 1 wv2 ((stA s k).2.1.length + 1) (strs (mkW (stA s k).2.1) ++ [.string (wordA s f0 k)])) : H0 s w lv wv2 k w2 := by
 obtain ⟨h1, h2, h3, h4⟩ := h
 have hle := h1.le
 have hcur : (stA s k).2.2.1 ≠ [] := by
  rw [h4]
  intro e
  have := congrArg List.length e
  rw [List.length_take, List.length_drop, un_len] at this
  simp at this
  omega
 refine ⟨⟨hle, h1.2.1, r, wk, hr, ho, hwk, hw2, ?_⟩, fun _ => hk, fun e => by rw [h2] at e; cases e⟩
 have hm : mk (stA s k).2.2.1 = wordA s f0 k := by rw [h4, ← un_wordA, mk_un]
 rw [push_ne hcur]
 have e : strs (mkW ((stA s k).2.1 ++ [(stA s k).2.2.1])) = strs (mkW (stA s k).2.1) ++ [.string (wordA s f0 k)] := by
  simp only [mkW, strs, List.map_append, List.map_cons, List.map_nil]
  rw [hm]
 rw [e, List.length_append]
 exact hown

/-! the end of a line -/
/-- what Lines answers -/
def LnR (s : ByteArray) (w : World) (e : Ending) (w' : World) : Prop :=
 ∃ u r, e = .returned (.tuple #[u, .int .i64 (lnE (un s))]) ∧ r.map Prod.fst = mkL (lnT (un s)) ∧ OwnL w.heap.size u r w' ∧ Below w.heap.size w w'
theorem LnR.many {s : ByteArray} {w w' : World} (h : lnE (un s) = 4) (hb : Below w.heap.size w w') : LnR s w (.returned (.tuple #[.slice none 0 0, .int .i64 4])) w' :=
 ⟨_, [], by rw [h], by rw [lnT_no h]; rfl, OwnL.nil _ _, hb⟩
/-- the line is done: what lines it makes -/
def Done (s : ByteArray) (w : World) (lv : Value) (k : Nat) (w2 : World) : Prop :=
 ∃ r : List Rw, r.map Prod.fst = mkL (((stA s k).1 ++ [push (stA s k).2.1 (stA s k).2.2.1]).filter full) ∧ OwnL w.heap.size lv r w2 ∧ Below w.heap.size w w2
theorem Done.full {s : ByteArray} {w wx w2 wk : World} {lv lv2 wv : Value} {k : Nat} {W : List Word} {r : List Rw} (hk : push (stA s k).2.1 (stA s k).2.2.1 = W) (hW : W ≠ []) (hr : r.map Prod.fst = mkL ((stA s k).1.filter full)) (h2 : OwnL w.heap.size lv r wk)
  (hwk : Below w.heap.size w wk) (hwx : Below wk.heap.size wk wx) (hx : wx.ownsRow wk.heap.size 9 1 wv W.length (strs (mkW W))) (hg : wx.grownBy w2 lv.ownBlock) (ho : w2.ownsRow w.heap.size 74 1 lv2 (r.length + 1) (r.map Prod.snd ++ [wv])) : Done s w lv2 k w2 := by
 have hO := OwnL.below h2 hwx
 have hbw : Below w.heap.size w wx := hwk.trans (hwx.mono hwk.size)
 refine ⟨r ++ [(mkW W, wv)], ?_, OwnL.snoc hO (owns_base (by simpa using hx) hwk.size) hg ho, own_grown hbw hO.1 hg hbw.size⟩
 rw [hk, List.map_append, hr, List.filter_append]
 have : List.filter LxM.full [W] = [W] := by
  cases W with
  | nil => exact absurd rfl hW
  | cons a t => rfl
 rw [this]
 simp
theorem Done.end {s : ByteArray} {w w2 : World} {lv : Value} (h : Done s w lv s.size w2) (hsz : s.size ≤ 16384) (hs : ∀ x ∈ (stA s s.size).1, x.length ≤ 64) (hl : (push (stA s s.size).2.1 (stA s s.size).2.2.1).length ≤ 64) : LnR s w (.returned (.tuple #[lv, .int .i64 0])) w2 := by
 obtain ⟨r, h1, h2, h3⟩ := h
 rw [stA_end] at h1 hs hl
 have hE : lnE (un s) = 0 := by
  refine lnE_ok (by rw [un_len]; exact hsz) fun x hx => ?_
  unfold allW fin at hx
  rcases List.mem_append.1 hx with hx | hx
  ·exact hs x hx
  ·rw [List.mem_singleton.1 hx]; exact hl
 refine ⟨lv, r, by rw [hE], ?_, h2, h3⟩
 rw [h1, lnT_ok hE]
 rfl
end Go.Proofs.YtbebficgcemkoaaGreatDoor.LxJ
namespace Go.Proofs.YtbebficgcemkoaaGreatDoor.LxY
open Go.RowKit Go.Lib LxM LxP LxK LxJ NumP NumQ NumR NumG

/-- a mark's number, or the error -/
def mkN (s : ByteArray) (c : UInt8) : Int × Int := match un s with
 | [] => (0, 10)
 | x :: t => if x = c then NumG.sm t 999 else (0, 10)
def MkR (s : ByteArray) (c : UInt8) (w : World) (e : Ending) (w' : World) : Prop := e = .returned (.tuple #[.int .i64 (mkN s c).1, .int .i64 (mkN s c).2]) ∧ Below w.heap.size w w'
theorem mkN_nil {s : ByteArray} {c : UInt8} (h : s.size = 0) : mkN s c = (0, 10) := by
 unfold mkN
 have : un s = [] := List.eq_nil_of_length_eq_zero (by rw [un_len]; exact h)
 rw [this]
theorem un_cons {s : ByteArray} (h : 0 < s.size) : un s = s[0] :: un (s.extract 1 s.size) := by
 obtain ⟨h2, e⟩ := at_byte h
 rw [show un (s.extract 1 s.size) = _ from Lib.extract_data s 1 s.size, List.take_of_length_le (by rw [List.length_drop, un_len]; omega)]
 have := List.drop_eq_getElem_cons h2
 rw [List.drop_zero, e] at this
 exact this
theorem mkN_no {s : ByteArray} {c : UInt8} (h : 0 < s.size) (hc : s[0] ≠ c) : mkN s c = (0, 10) := by
 unfold mkN
 rw [un_cons h]
 exact if_neg hc
theorem mkN_yes {s : ByteArray} {c : UInt8} (h : 0 < s.size) (hc : s[0] = c) : mkN s c = NumG.sm (un (s.extract 1 s.size)) 999 := by
 unfold mkN
 rw [un_cons h]
 exact if_pos hc
theorem sm_cases (t : List UInt8) : (NumG.sm t 999).2 = 0 ∨ NumG.sm t 999 = (0, 10) := by
 unfold NumG.sm
 rw [if_neg (by omega)]
 split
 ·exact .inl rfl
 ·exact .inr rfl
end Go.Proofs.YtbebficgcemkoaaGreatDoor.LxY
namespace Go.Proofs.YtbebficgcemkoaaGreatDoor.LxY
open Go.RowKit Go.Lib LxM LxP LxK LxJ NumP NumQ NumR NumG

set_option maxHeartbeats 1000000 in
theorem markR_calls (s : ByteArray) (hs : s.size ≤ 9223372036854775807) (c : UInt8) (w : World) :
  Calls Tryz.prog 113 #[.string s, .int .u8 (c.toNat : Int)] w (MkR s c w) := by
 have h255 := u8_le c
 by_cases h0 : s.size = 0
 ·have HE := hid (mkN_nil (c := c) h0)
  have hse : s = ⟨#[]⟩ := by
   apply ByteArray.ext
   exact Array.eq_empty_of_size_eq_zero h0
  subst hse
  go_enter Tryz.func113, Tryz.ntmps113
  go_wp2
  go_ret2
  exact ⟨by rw [HE.out]; rfl, Below.refl _ _⟩
 ·have hpos : 0 < s.size := by omega
  have hne : s.toList.isEmpty = false := by
   rw [Lib.toList_data]
   show (un s).isEmpty = false
   rw [un_cons hpos]; rfl
  by_cases hc : s[0] = c
  ·have HE := hid (mkN_yes hpos hc)
   have hcc : ((s[0].toNat : Int) != (c.toNat : Int)) = false := by simp [hc]
   have hsx : (s.extract 1 s.size).size ≤ 9223372036854775807 := by rw [ByteArray.size_extract]; omega
   have HC := hid (NumH.ref_small_calls (s.extract 1 s.size) hsx 999 w)
   have hsm := sm_cases (un (s.extract 1 s.size))
   unfold SmPost at HC
   clear hc
   generalize NumG.sm (un (s.extract 1 s.size)) 999 = r at *
   obtain ⟨m, e⟩ := r
   simp only at hsm HC
   rcases hsm with rfl | hsm
   ·go_enter Tryz.func113, Tryz.ntmps113
    go_wp2_with fail
    refine HC.out.mono ?_
    rintro e w1 ⟨rfl, hb⟩
    clear HC
    go_wp2
    go_ret2
    exact ⟨by rw [HE.out]; rfl, hb⟩
   ·cases hsm
    go_enter Tryz.func113, Tryz.ntmps113
    go_wp2_with fail
    refine HC.out.mono ?_
    rintro e w1 ⟨rfl, hb⟩
    clear HC
    go_wp2
    go_ret2
    exact ⟨by rw [HE.out]; rfl, hb⟩
  ·have HE := hid (mkN_no hpos hc)
   have hcc : ((s[0].toNat : Int) != (c.toNat : Int)) = true := by
    simp only [bne_iff_ne, ne_eq]
    intro e
    exact hc (UInt8.toNat_inj.1 (by omega))
   clear hc
   go_enter Tryz.func113, Tryz.ntmps113
   go_wp2
   go_ret2
   exact ⟨by rw [HE.out]; rfl, Below.refl _ _⟩
end Go.Proofs.YtbebficgcemkoaaGreatDoor.LxY
namespace Go.Proofs.YtbebficgcemkoaaGreatDoor.RdM
open Go.RowKit Go.Lib TyM ShM LxM LxP LxK LxJ LxY

/-- the numbers of words, all marks of a byte -/
def marksO (c : UInt8) : List ByteArray → Option (List Int)
 | [] => some []
 | x :: l => if (mkN x c).2 = 0 then (marksO c l).map ((mkN x c).1 :: ·) else none
theorem marks_snoc {c : UInt8} {x : ByteArray} (hx : (mkN x c).2 = 0) : ∀ {l : List ByteArray} {a : List Int}, marksO c l = some a → marksO c (l ++ [x]) = some (a ++ [(mkN x c).1])
 | [], a, h => by
  cases h
  simp [marksO, hx]
 | y :: l, a, h => by
  unfold marksO at h
  by_cases hy : (mkN y c).2 = 0
  ·rw [if_pos hy] at h
   cases hl : marksO c l with
   | none => rw [hl] at h; cases h
   | some b =>
    rw [hl] at h
    cases h
    rw [List.cons_append]
    unfold marksO
    rw [if_pos hy, marks_snoc hx hl]; rfl
  ·rw [if_neg hy] at h; cases h
theorem marks_bad {c : UInt8} : ∀ {l : List ByteArray} {k : Nat} (h : k < l.length), (mkN l[k] c).2 ≠ 0 → marksO c l = none
 | x :: l, 0, _, hx => if_neg hx
 | x :: l, k + 1, h, hx => by
  have ih := marks_bad (c := c) (l := l) (k := k) (by simpa using h) (by simpa using hx)
  unfold marksO
  rw [ih]
  split <;> rfl
theorem marks_len {c : UInt8} : ∀ {l : List ByteArray} {a : List Int}, marksO c l = some a → a.length = l.length
 | [], a, h => by cases h; rfl
 | y :: l, a, h => by
  unfold marksO at h
  split at h
  ·cases hl : marksO c l with
   | none => rw [hl] at h; cases h
   | some b => rw [hl] at h; cases h; simp [marks_len hl]
  ·cases h

/-- the operations' words, in order -/
def wordsL : List (List UInt8) := [[], [105, 110, 116], [110, 117, 108, 108], [102, 110], [97, 100, 100], [115, 117, 98], [109, 117, 108], [100, 105, 118], [108, 101, 115, 115], [101, 113], [115, 97, 109, 101], [110, 101, 119], [108, 111, 99, 97, 108], [102, 114, 101, 101], [102, 105, 101, 108, 100], [101, 108, 101, 109], [108, 111, 97, 100], [115, 116, 111, 114, 101], [99, 97, 108, 108], [105, 99, 97, 108, 108], [114, 101, 97, 100], [112, 114, 105, 110, 116], [112, 104, 105]]
def hasNB (op : Int) : Bool := decide (op = 1 ∨ op = 3 ∨ op = 14 ∨ op = 18)
/-- an instruction's number -/
def numP (op : Int) (s : ByteArray) : Int × Bool :=
 if op = 1 then ((NumP.rd (un s)).1, decide ((NumP.rd (un s)).2 = 0))
 else if op = 14 then ((NumG.sm (un s) 999).1, decide ((NumG.sm (un s) 999).2 = 0))
 else ((mkN s 102).1, decide ((mkN s 102).2 = 0))
/-- a phi's blocks and registers -/
def pairsO : List ByteArray → Option (List (Int × Int))
 | [] => some []
 | [_] => none
 | a :: b :: l => if (mkN a 98).2 = 0 ∧ (mkN b 114).2 = 0 then (pairsO l).map (((mkN a 98).1, (mkN b 114).1) :: ·) else none
/-- a phi -/
def phiP (x : Ix) (l : List ByteArray) : Option Ix := (pairsO l).map fun r => { x with args := r.map Prod.snd, frm := r.map Prod.fst }
end Go.Proofs.YtbebficgcemkoaaGreatDoor.RdM
namespace Go.Proofs.YtbebficgcemkoaaGreatDoor.RdN
open Go.RowKit Go.Lib TyM ShM LxM LxP LxK LxJ LxY RdM

/-! by the document's words -/
def ix0 (op typ : Int) : Ix := ⟨op, typ, 0, 0, 0, [], []⟩
def regsN (op : Int) : Nat := if twoB op = true then 2 else if hasAB op = true then 1 else 0
/-- an instruction's numbers, of the words behind its registers -/
def restP (op typ a b : Int) (m : List ByteArray) : Option Ix :=
 if hasNB op = true then
  (if m.length = 0 then none else match marksO 114 (m.drop 1) with
   | none => none
   | some q => if (numP op (m.getD 0 ⟨#[]⟩)).2 = true ∧ (m.length = 1 ∨ argsB op = true) then some ⟨op, typ, a, b, (numP op (m.getD 0 ⟨#[]⟩)).1, q, []⟩ else none)
 else match marksO 114 m with
  | none => none
  | some q => if m.length = 0 ∨ argsB op = true then some ⟨op, typ, a, b, 0, q, []⟩ else none
def hasP (op typ : Int) (l : List ByteArray) : Option Ix :=
 if op = 22 then phiP (ix0 op typ) l
 else if l.length < regsN op then none
 else match marksO 114 (l.take (regsN op)) with
  | none => none
  | some r => restP op typ (if 0 < regsN op then r.getD 0 0 else 0) (if 1 < regsN op then r.getD 1 0 else 0) (l.drop (regsN op))
/-! as a reader goes: a line's words -/
def markC (c : UInt8) : List ByteArray → Option (Int × List ByteArray)
 | [] => none
 | x :: l => if (mkN x c).2 = 0 then some ((mkN x c).1, l) else none
def numC (op : Int) (l : List ByteArray) : Option (Int × List ByteArray) :=
 if hasNB op = true then (match l with
  | [] => none
  | x :: l => if (numP op x).2 = true then some ((numP op x).1, l) else none)
 else some (0, l)
theorem markC_nil (c : UInt8) : markC c [] = none := rfl
theorem markC_cons (c : UInt8) (x : ByteArray) (l : List ByteArray) : markC c (x :: l) = if (mkN x c).2 = 0 then some ((mkN x c).1, l) else none := rfl
/-- all words are read -/
def done {α : Type} : Option (α × List ByteArray) → Option α
 | some (x, []) => some x
 | _ => none
/-! an instruction's numbers -/
def aC (b : Bool) (l : List ByteArray) : Option (Int × List ByteArray) := if b = true then markC 114 l else some (0, l)
def argC (op : Int) (l : List ByteArray) : Option ((List Int × List Int) × List ByteArray) :=
 if argsB op = true then (if op = 22 then (pairsO l).map (fun r => ((r.map Prod.snd, r.map Prod.fst), [])) else (marksO 114 l).map fun r => ((r, []), [])) else some (([], []), l)
def restC (op typ a b : Int) (l : List ByteArray) : Option (Ix × List ByteArray) := match numC op l with
 | none => none
 | some (n, l) => match argC op l with
  | none => none
  | some ((q, f), l) => some (⟨op, typ, a, b, n, q, f⟩, l)
def hasC (op typ : Int) (l : List ByteArray) : Option (Ix × List ByteArray) := match aC (hasAB op) l with
 | none => none
 | some (a, l) => match aC (twoB op) l with
  | none => none
  | some (b, l) => restC op typ a b l
theorem rest_eq {op : Int} (h22 : op ≠ 22) (typ a b : Int) (m : List ByteArray) : done (restC op typ a b m) = restP op typ a b m := by
 unfold restC restP numC argC
 by_cases hn : hasNB op = true
 ·simp only [hn, if_true]
  cases m with
  | nil => simp [done]
  | cons x m =>
   simp only [List.length_cons, Nat.add_eq_zero_iff, Nat.succ_ne_self, and_false, if_false, List.getD_cons_zero, List.drop_succ_cons, List.drop_zero]
   by_cases hx : (numP op x).2 = true
   ·simp only [hx, if_true]
    by_cases hr : argsB op = true
    ·simp only [hr, if_true, if_neg h22]
     cases hm : marksO 114 m with
     | none => simp [done]
     | some q => simp [done]
    ·have hr' : argsB op = false := by simpa using hr
     simp only [hr', Bool.false_eq_true, if_false]
     cases m with
     | nil => simp [done, marksO]
     | cons y m =>
      simp only [done]
      cases hm : marksO 114 (y :: m) with
      | none => rfl
      | some q => simp
   ·have hx' : (numP op x).2 = false := by simpa using hx
    simp only [hx', Bool.false_eq_true, if_false]
    cases hm : marksO 114 m with
    | none => simp [done]
    | some q => simp [done]
 ·have hn' : hasNB op = false := by simpa using hn
  simp only [hn', Bool.false_eq_true, if_false]
  by_cases hr : argsB op = true
  ·simp only [hr, if_true, if_neg h22]
   cases hm : marksO 114 m with
   | none => simp [done]
   | some q => simp [done]
  ·have hr' : argsB op = false := by simpa using hr
   simp only [hr', Bool.false_eq_true, if_false]
   cases m with
   | nil => simp [done, marksO]
   | cons y m =>
    simp only [done]
    cases hm : marksO 114 (y :: m) with
    | none => rfl
    | some q => simp
theorem two_ab {op : Int} (h : twoB op = true) : hasAB op = true := by unfold hasAB; rw [h]; rfl
theorem has_eq (op typ : Int) (l : List ByteArray) : done (hasC op typ l) = hasP op typ l := by
 by_cases h22 : op = 22
 ·subst h22
  have e1 : hasAB 22 = false := by decide
  have e2 : twoB 22 = false := by decide
  have e3 : hasNB 22 = false := by decide
  have e4 : argsB 22 = true := by decide
  unfold hasC hasP restC numC argC aC phiP ix0
  simp only [e1, e2, e3, e4, Bool.false_eq_true, if_false, if_true]
  cases hp : pairsO l with
  | none => simp [done]
  | some r => simp [done]
 ·unfold hasC hasP
  rw [if_neg h22]
  unfold regsN aC
  by_cases h2 : twoB op = true
  ·simp only [h2, two_ab h2, if_true]
   cases l with
   | nil => simp [markC, done]
   | cons x l =>
    cases l with
    | nil =>
     rw [markC_cons]
     by_cases hx : (mkN x 114).2 = 0 <;> simp [hx, markC_nil, done]
    | cons y l =>
     simp only [markC_cons]
     simp only [List.length_cons, List.take_succ_cons, List.take_zero, List.drop_succ_cons, List.drop_zero, marksO]
     by_cases hx : (mkN x 114).2 = 0
     ·by_cases hy : (mkN y 114).2 = 0
      ·simp only [hx, hy, if_true, Option.map_some, markC_cons]
       rw [if_neg (by omega)]
       refine (rest_eq h22 typ _ _ l).trans ?_
       simp
      ·simp only [hx, hy, if_true, if_false, Option.map_none, markC_cons]
       simp [done]
     ·simp only [hx, if_false]
      simp [done]
  ·have h2' : twoB op = false := by simpa using h2
   simp only [h2', Bool.false_eq_true, if_false]
   by_cases h1 : hasAB op = true
   ·simp only [h1, if_true]
    cases l with
    | nil => simp [markC, done]
    | cons x l =>
     simp only [markC_cons]
     simp only [List.length_cons, List.take_succ_cons, List.take_zero, List.drop_succ_cons, List.drop_zero, marksO]
     by_cases hx : (mkN x 114).2 = 0
     ·simp only [hx, if_true, Option.map_some]
      rw [if_neg (by omega)]
      refine (rest_eq h22 typ _ 0 l).trans ?_
      simp
     ·simp only [hx, if_false]
      simp [done]
   ·have h1' : hasAB op = false := by simpa using h1
    simp only [h1', Bool.false_eq_true, if_false, Nat.not_lt_zero, List.take_zero, marksO, List.drop_zero]
    refine (rest_eq h22 typ 0 0 l).trans ?_
    simp

/-! an instruction's line -/
def mkL (s : List UInt8) (c : UInt8) : Int × Int := match s with
 | [] => (0, 10)
 | x :: t => if x = c then NumG.sm t 999 else (0, 10)
theorem mk_un (s : ByteArray) (c : UInt8) : mkN s c = mkL (un s) c := rfl
end Go.Proofs.YtbebficgcemkoaaGreatDoor.RdN
namespace Go.Proofs.YtbebficgcemkoaaGreatDoor.RdV
open Go.RowKit Go.Lib TyM ShM LxM LxP LxK LxJ LxY RdM RdN

abbrev Ln := List ByteArray
def w0 (l : Ln) : List UInt8 := un (l.getD 0 ⟨#[]⟩)
/-- the number of the first register -/
def regOf (ts : List Ty) (sig : Int) : Int := match ts[sig.toNat]? with
 | some t => t.parts.length
 | none => 0
end Go.Proofs.YtbebficgcemkoaaGreatDoor.RdV
namespace Go.Proofs.YtbebficgcemkoaaGreatDoor.WrM
open Go.RowKit Go.Lib TyM ShM LxM LxP LxK LxJ LxY RdM RdN RdV NumP

def nmw (n : Int) : ByteArray := mk (itoa n)
def mkw (c : UInt8) (n : Int) : ByteArray := mk (c :: itoa n)
def Nn (n : Int) : Prop := 0 ≤ n ∧ n ≤ 999
def pairW : List (Int × Int) → List ByteArray
 | [] => []
 | p :: l => mkw 98 p.1 :: mkw 114 p.2 :: pairW l
/-! a type's words, behind 'type' -/
def kindW (t : Ty) : List ByteArray :=
 if t.kind = 2 then [mk [112, 116, 114], mkw 116 t.elem]
 else if t.kind = 3 then mk [102, 110] :: mkw 116 t.elem :: t.parts.map (mkw 116)
 else if t.kind = 4 then mk [115, 116, 114, 117, 99, 116] :: t.parts.map (mkw 116)
 else if t.kind = 5 then [mk [97, 114, 114, 97, 121], mkw 116 t.elem, nmw t.many]
 else [mk [105, 110, 116]]
def TOk (t : Ty) : Prop := (t.kind = 1 ∧ t.elem = 0 ∧ t.many = 0 ∧ t.parts = []) ∨ (t.kind = 2 ∧ Nn t.elem ∧ t.many = 0 ∧ t.parts = []) ∨ (t.kind = 3 ∧ Nn t.elem ∧ t.many = 0 ∧ ∀ n ∈ t.parts, Nn n) ∨
 (t.kind = 4 ∧ t.elem = 0 ∧ t.many = 0 ∧ ∀ n ∈ t.parts, Nn n) ∨ (t.kind = 5 ∧ Nn t.elem ∧ Nn t.many ∧ t.parts = [])
end Go.Proofs.YtbebficgcemkoaaGreatDoor.WrM
namespace Go.Proofs.YtbebficgcemkoaaGreatDoor.WrI
open Go.RowKit Go.Lib TyM ShM LxM LxP LxK LxJ LxY RdM RdN RdV NumP WrM

/-! an instruction's words -/
def abW (op a b : Int) : List ByteArray := (if hasAB op = true then [mkw 114 a] else []) ++ (if twoB op = true then [mkw 114 b] else [])
def numW (op n : Int) : List ByteArray := if op = 1 ∨ op = 14 then [nmw n] else if op = 3 ∨ op = 18 then [mkw 102 n] else []
def argW (x : Ix) : List ByteArray := if x.op = 22 then pairW (x.frm.zip x.args) else x.args.map (mkw 114)
def hasW (x : Ix) : List ByteArray := abW x.op x.a x.b ++ (numW x.op x.n ++ argW x)
def opw (op : Int) : ByteArray := mk (wordsL.getD op.toNat [])
def insW (x : Ix) (reg : Int) : List ByteArray := (if answersB x.op = true then [mkw 114 reg, mkw 116 x.typ, mk [61]] else []) ++ (opw x.op :: hasW x)
/-- what is told of an instruction is all that it has -/
structure IOk (x : Ix) : Prop where
 op : 1 ≤ x.op ∧ x.op ≤ 22
 typ : Nn x.typ
 typ0 : answersB x.op = false → x.typ = 0
 a : Nn x.a
 a0 : hasAB x.op = false → x.a = 0
 b : Nn x.b
 b0 : twoB x.op = false → x.b = 0
 n : I64 x.n
 n1 : hasNB x.op = true → x.op ≠ 1 → Nn x.n
 n0 : hasNB x.op = false → x.n = 0
 args : ∀ q ∈ x.args, Nn q
 args0 : argsB x.op = false → x.args = []
 frm : ∀ q ∈ x.frm, Nn q
 frm0 : x.op ≠ 22 → x.frm = []
 frm1 : x.op = 22 → x.frm.length = x.args.length
end Go.Proofs.YtbebficgcemkoaaGreatDoor.WrI
namespace Go.Proofs.YtbebficgcemkoaaGreatDoor.WrP
open Go.RowKit Go.Lib TyM ShM LxM LxP LxK LxJ LxY RdM RdN RdV NumP WrM WrI

def endW (x : Ex) : List ByteArray :=
 if x.kind = 1 then [mk [106, 117, 109, 112], mkw 98 x.to]
 else if x.kind = 2 then [mk [98, 114, 97, 110, 99, 104], mkw 114 x.a, mkw 98 x.to, mkw 98 x.els]
 else [mk [114, 101, 116, 117, 114, 110], mkw 114 x.a]
def EOk (x : Ex) : Prop := (x.kind = 1 ∧ x.a = 0 ∧ Nn x.to ∧ x.els = 0) ∨ (x.kind = 2 ∧ Nn x.a ∧ Nn x.to ∧ Nn x.els) ∨ (x.kind = 3 ∧ Nn x.a ∧ x.to = 0 ∧ x.els = 0)
/-! words are not empty -/
/-! blocks -/
def insWs : List Ix → Int → List Ln
 | [], _ => []
 | x :: l, r => insW x r :: insWs l (r + 1)
def FineW (L : List Ln) : Prop := ∀ l ∈ L, 1 ≤ l.length ∧ ∀ y ∈ l, un y ≠ []
def blW : Ln := [mk [98, 108, 111, 99, 107]]
def blocksW : List Bx → Int → List Ln
 | [], _ => []
 | b :: bs, r => blW :: (insWs b.ins r ++ endW b.en :: blocksW bs (r + b.ins.length))
def insN (bs : List Bx) : Nat := (bs.map fun b => b.ins.length).sum
def BOk (b : Bx) : Prop := (∀ x ∈ b.ins, IOk x) ∧ EOk b.en
theorem FineW.drop {L : List Ln} (h : FineW L) (n : Nat) : FineW (L.drop n) := fun l hl => h l (List.mem_of_mem_drop hl)
/-! functions, types, programs -/
def fnW (s : Int) : Ln := [mk [102, 117, 110, 99], mkw 116 s]
def funcsW (ts : List Ty) : List Fx → List Ln
 | [] => []
 | f :: fs => fnW f.sig :: (blocksW f.blocks (regOf ts f.sig) ++ funcsW ts fs)
def FOk (ts : List Ty) (f : Fx) : Prop := Nn f.sig ∧ (∀ b ∈ f.blocks, BOk b) ∧ regOf ts f.sig + insN f.blocks ≤ 1000
theorem reg_nn (ts : List Ty) (s : Int) : 0 ≤ regOf ts s := by
 unfold regOf
 split <;> omega
def tyW (t : Ty) : Ln := mk [116, 121, 112, 101] :: kindW t
/-- a program's own lines -/
def progW (p : Px) : List Ln := p.types.map tyW ++ funcsW p.types p.funcs
def POkW (p : Px) : Prop := (∀ t ∈ p.types, TOk t) ∧ ∀ f ∈ p.funcs, FOk p.types f
end Go.Proofs.YtbebficgcemkoaaGreatDoor.WrP
