/- A scope in which the run jumps to several labels: what holds at each jump, and a measure that every pass from a label lowers. And: what is known of lex.Lines at its labels. -/
import Derived.Test.YtfnibkepkomcdaaDoorLxK
import Derived.Scope
import Derived.WalkMore
namespace Go.Proofs.YtfnibkepkomcdaaDoor.LxJ
open Go.RowKit Go.Lib LxM LxP LxK

/-- As Q; by a goto to label l: J l. -/
def jumps (J : Nat → Act → World → Prop) (Q : Exit → Act → World → Prop) : Exit → Act → World → Prop
  | .goto l, a, w => J l a w
  | e, a, w => Q e a w
theorem jumps_ret {J : Nat → Act → World → Prop} {Q : Exit → Act → World → Prop} {a : Act} {w : World} : jumps J Q .ret a w = Q .ret a w := rfl
theorem jumps_goto {J : Nat → Act → World → Prop} {Q : Exit → Act → World → Prop} {a : Act} {w : World} {l : Nat} : jumps J Q (.goto l) a w = J l a w := rfl

theorem wp_scope_many {P : Program} {a : Act} {w : World} {Q : Exit → Act → World → Prop} {c : Code} (J : Nat → Act → World → Prop) (μ : Nat → Act → World → Nat)
    (pass : ∀ l a w, J l a w → ∃ X, findLabel c l = some (.seq .skip X) ∧ X.wp P (jumps (fun l' a' w' => J l' a' w' ∧ μ l' a' w' < μ l a w) Q) a w)
    (first : (∀ l X a w, findLabel c l = some (.seq .skip X) → J l a w → X.wp P (jumps J Q) a w) → c.wp P (jumps J Q) a w) : (Code.scope c).wp P Q a w := by
  intro b k cs
  have key : ∀ n l a w rest, findLabel c l = some rest → μ l a w = n → J l a w → ∃ e a' w', Q e a' w' ∧ Arrives P (lone (b.at a (.code rest :: .inScope c :: k)) cs w) b k cs e a' w' := by
    intro n
    induction n using Nat.strongRecOn with
    | _ n ih =>
      intro l a w rest hf hn hJ
      obtain ⟨X, hf', hX⟩ := pass l a w hJ
      have hp : (Code.seq .skip X).wp P (jumps (fun l' a' w' => J l' a' w' ∧ μ l' a' w' < μ l a w) Q) a w := wp_seq (wp_skip hX)
      obtain rfl : rest = _ := Option.some.inj (hf.symm.trans hf')
      obtain ⟨e, a₁, w₁, hq, harr⟩ := hp b (.inScope c :: k) cs
      cases e with
      | normal => exact ⟨.normal, a₁, w₁, hq, Steps.trans harr (.one step_inScope)⟩
      | exit id => exact ⟨.exit id, a₁, w₁, hq, fun k' hk => harr k' (by simp [exitTo, hk])⟩
      | goto l' =>
        obtain ⟨hJ', hlt⟩ := hq
        obtain ⟨X2, hf2, _⟩ := pass l' a₁ w₁ hJ'
        obtain ⟨e₂, a₂, w₂, hq₂, harr₂⟩ := ih _ (by omega) l' a₁ w₁ _ hf2 rfl hJ'
        have hg : gotoIn l' (.inScope c :: k) = some (.code (.seq .skip X2) :: .inScope c :: k) := by simp [gotoIn, hf2]
        exact ⟨e₂, a₂, w₂, hq₂, .of_steps (harr _ hg) harr₂⟩
      | ret => exact ⟨_, a₁, w₁, hq, harr⟩
      | panic ch => exact ⟨_, a₁, w₁, hq, harr⟩
      | outgrown => exact ⟨_, a₁, w₁, hq, harr⟩
  obtain ⟨e, a₁, w₁, hq, harr⟩ := first (fun l X a w hf hJ => by
    obtain ⟨X2, hf2, h2⟩ := pass l a w hJ
    have e := Option.some.inj (hf.symm.trans hf2)
    cases e
    exact wp_mono h2 fun e a w q => by
      cases e with
      | goto l' => exact q.1
      | _ => exact q) b (.inScope c :: k) cs
  cases e with
  | normal => exact ⟨.normal, a₁, w₁, hq, .head step_scope (Steps.trans harr (.one step_inScope))⟩
  | exit id => exact ⟨.exit id, a₁, w₁, hq, fun k' hk => .head step_scope (harr k' (by simp [exitTo, hk]))⟩
  | goto l' =>
    obtain ⟨X2, hf2, _⟩ := pass l' a₁ w₁ hq
    obtain ⟨e₂, a₂, w₂, hq₂, harr₂⟩ := key _ l' a₁ w₁ _ hf2 rfl hq
    have hg : gotoIn l' (.inScope c :: k) = some (.code (.seq .skip X2) :: .inScope c :: k) := by simp [gotoIn, hf2]
    exact ⟨e₂, a₂, w₂, hq₂, .of_steps (.head step_scope (harr _ hg)) harr₂⟩
  | ret => exact ⟨_, a₁, w₁, hq, .of_steps (.one step_scope) harr⟩
  | panic ch => exact ⟨_, a₁, w₁, hq, .of_steps (.one step_scope) harr⟩
  | outgrown => exact ⟨_, a₁, w₁, hq, .of_steps (.one step_scope) harr⟩

/-! strings and lists of bytes -/
def mk (l : Word) : ByteArray := ⟨l.toArray⟩
abbrev un (x : ByteArray) : Word := x.data.toList
theorem mk_un (x : ByteArray) : mk (un x) = x := Lib.mk_data x
theorem un_mk (l : Word) : un (mk l) = l := by simp [mk]
theorem un_len (x : ByteArray) : (un x).length = x.size := Array.length_toList
theorem mk_size (l : Word) : (mk l).size = l.length := by rw [← un_len, un_mk]
abbrev mkW (l : List Word) : List ByteArray := l.map mk
abbrev mkL (l : List (List Word)) : List (List ByteArray) := l.map mkW
abbrev unW (l : List ByteArray) : List Word := l.map un
abbrev unL (l : List (List ByteArray)) : List (List Word) := l.map unW
theorem mkW_unW (l : List ByteArray) : mkW (unW l) = l := by
  show (l.map un).map mk = l
  rw [List.map_map]
  conv => rhs; rw [← List.map_id l]
  exact List.map_congr_left fun x _ => mk_un x
theorem mkL_unL (l : List (List ByteArray)) : mkL (unL l) = l := by
  show (l.map unW).map mkW = l
  rw [List.map_map]
  conv => rhs; rw [← List.map_id l]
  exact List.map_congr_left fun x _ => mkW_unW x
theorem unW_mkW (l : List Word) : unW (mkW l) = l := by
  show (l.map mk).map un = l
  rw [List.map_map]
  conv => rhs; rw [← List.map_id l]
  exact List.map_congr_left fun x _ => un_mk x
theorem unL_mkL (l : List (List Word)) : unL (mkL l) = l := by
  show (l.map mkW).map unW = l
  rw [List.map_map]
  conv => rhs; rw [← List.map_id l]
  exact List.map_congr_left fun x _ => unW_mkW x

/-! what is known of lex.Lines at its labels -/
abbrev stA (s : ByteArray) (k : Nat) : MSt := runB ((un s).take k)
theorem at_byte {s : ByteArray} {k : Nat} (h : k < s.size) : ∃ h2 : k < (un s).length, (un s)[k] = s[k] := ⟨by rw [un_len]; exact h, rfl⟩
theorem stA_next {s : ByteArray} {k : Nat} (h : k < s.size) : stA s (k + 1) = mstep (stA s k) s[k] := by
  obtain ⟨h2, e⟩ := at_byte h
  unfold stA
  rw [List.take_succ_eq_append_getElem h2, runB_snoc, e]
theorem stA_end (s : ByteArray) : stA s s.size = runB (un s) := by
  unfold stA
  rw [List.take_of_length_le (by rw [un_len]; exact Nat.le_refl _)]

/-- lines and words so far -/
def Has (s : ByteArray) (w : World) (lv wv : Value) (k : Nat) (W : List Word) (wr : World) : Prop :=
  k ≤ s.size ∧ (∀ x ∈ (stA s k).1, x.length ≤ 64) ∧
  ∃ (r : List Rw) (wk : World), r.map Prod.fst = mkL ((stA s k).1.filter full) ∧ OwnL w.heap.size lv r wk ∧ Below w.heap.size w wk ∧ Below wk.heap.size wk wr ∧ wr.ownsRow wk.heap.size 9 1 wv W.length (strs (mkW W))
def H0 (s : ByteArray) (w : World) (lv wv : Value) (k : Nat) (wr : World) : Prop :=
  Has s w lv wv k (push (stA s k).2.1 (stA s k).2.2.1) wr ∧ ((stA s k).2.2.1 ≠ [] → kindS s k ≠ 0) ∧ ((stA s k).2.2.2 = true → kindS s k = 2)
def H1 (s : ByteArray) (w : World) (lv wv : Value) (k : Nat) (wr : World) : Prop :=
  Has s w lv wv k (push (stA s k).2.1 (stA s k).2.2.1) wr ∧ ((stA s k).2.2.2 = true ∨ kindS s k = 3)
def H2 (s : ByteArray) (w : World) (lv wv : Value) (k f : Nat) (wr : World) : Prop :=
  Has s w lv wv k (stA s k).2.1 wr ∧ (stA s k).2.2.2 = false ∧ f < k ∧ (stA s k).2.2.1 = ((un s).drop f).take (k - f)

theorem Has.le {s : ByteArray} {w wr : World} {lv wv : Value} {k : Nat} {W : List Word} (h : Has s w lv wv k W wr) : k ≤ s.size := h.1
theorem Has.belowW {s : ByteArray} {w wr : World} {lv wv : Value} {k : Nat} {W : List Word} (h : Has s w lv wv k W wr) : Below w.heap.size w wr := by
  obtain ⟨_, _, r, wk, _, _, h3, h4, _⟩ := h
  exact h3.trans (h4.mono h3.size)
theorem Has.same {s : ByteArray} {w wr : World} {lv wv : Value} {k j : Nat} {W V : List Word} (h : Has s w lv wv k W wr) (hj : j ≤ s.size) (hd : (stA s j).1 = (stA s k).1) (hw : V = W) : Has s w lv wv j V wr := by
  subst hw
  obtain ⟨_, h2, h3⟩ := h
  refine ⟨hj, ?_, ?_⟩ <;> rw [hd] <;> assumption
/-- at the beginning -/
theorem H0.start (s : ByteArray) (w : World) : H0 s w (.slice none 0 0) (.slice none 0 0) 0 w := by
  refine ⟨⟨Nat.zero_le _, by simp [stA, runB], [], w, by simp [stA, runB], OwnL.nil _ _, Below.refl _ _, Below.refl _ _, ?_⟩, ?_, ?_⟩
  · simp only [stA, List.take_zero, runB, List.foldl_nil, w0, push_nil]
    exact World.ownsRow_nil _ _ _ _
  · simp [stA, runB, w0]
  · simp [stA, runB, w0]
/-- the state at a place, part by part -/
theorem st_parts (s : ByteArray) (k : Nat) : ∃ d a b f, stA s k = (d, a, b, f) := ⟨_, _, _, _, rfl⟩
theorem Has.lt {s : ByteArray} {w wr : World} {lv wv : Value} {k : Nat} {W : List Word} (h : Has s w lv wv k W wr) (hk : kindS s k ≠ 2) : k < s.size := by
  have := h.le
  by_cases e : k = s.size
  · rw [e, kindS_end] at hk; omega
  · omega
/-- a blank between words -/
theorem H0.blank {s : ByteArray} {w wr : World} {lv wv : Value} {k : Nat} (h : H0 s w lv wv k wr) (hk : kindS s k = 1) : H0 s w lv wv (k + 1) wr := by
  obtain ⟨h1, h2, h3⟩ := h
  have hlt := h1.lt (by omega)
  have hkb := hk
  rw [kindS_in hlt] at hkb
  have hn := stA_next hlt
  rw [mstep_in (by omega)] at hn
  obtain ⟨d, a, b, f, hst⟩ := st_parts s k
  rw [hst] at hn h1 h2 h3
  cases f with
  | true => have := h3 rfl; omega
  | false =>
    rw [wstep_blank hkb] at hn
    refine ⟨h1.same (by omega) (by rw [hn, hst]) (by rw [hn]; exact push_nil _), fun e => ?_, fun e => ?_⟩
    · rw [hn] at e; exact absurd rfl e
    · rw [hn] at e; cases e
/-- a # -/
theorem H0.hash {s : ByteArray} {w wr : World} {lv wv : Value} {k : Nat} (h : H0 s w lv wv k wr) (hk : kindS s k = 3) : H1 s w lv wv k wr := ⟨h.1, .inr hk⟩
/-- a word begins -/
theorem H0.word {s : ByteArray} {w wr : World} {lv wv : Value} {k : Nat} (h : H0 s w lv wv k wr) (hk : kindS s k = 0) : H2 s w lv wv (k + 1) k wr := by
  obtain ⟨h1, h2, h3⟩ := h
  have hlt := h1.lt (by omega)
  have hkb := hk
  rw [kindS_in hlt] at hkb
  have hn := stA_next hlt
  rw [mstep_in (by omega)] at hn
  obtain ⟨d, a, b, f, hst⟩ := st_parts s k
  rw [hst] at hn h1 h2 h3
  cases f with
  | true => have := h3 rfl; omega
  | false =>
    have hb : b = [] := by
      cases b with
      | nil => rfl
      | cons x y => exact absurd hk (h2 (by simp))
    subst hb
    rw [wstep_word (by omega) (by omega)] at hn
    obtain ⟨h2', e⟩ := at_byte hlt
    refine ⟨h1.same (by omega) (by rw [hn, hst]) (by rw [hn]; exact (push_nil _).symm), by rw [hn], by omega, ?_⟩
    rw [hn, List.drop_eq_getElem_cons h2', e, show k + 1 - k = 1 by omega]
    rfl
/-- a word goes on -/
theorem H2.word {s : ByteArray} {w wr : World} {lv wv : Value} {k f0 : Nat} (h : H2 s w lv wv k f0 wr) (hk : kindS s k = 0) : H2 s w lv wv (k + 1) f0 wr := by
  obtain ⟨h1, h2, h3, h4⟩ := h
  have hlt := h1.lt (by omega)
  have hkb := hk
  rw [kindS_in hlt] at hkb
  have hn := stA_next hlt
  rw [mstep_in (by omega)] at hn
  obtain ⟨d, a, b, f, hst⟩ := st_parts s k
  rw [hst] at hn h1 h2 h4
  simp only at h2 h4
  subst h2
  rw [wstep_word (by omega) (by omega)] at hn
  obtain ⟨h2', e⟩ := at_byte hlt
  refine ⟨h1.same (by omega) (by rw [hn, hst]) (by rw [hn]), by rw [hn], by omega, ?_⟩
  rw [hn, h4, show k + 1 - f0 = (k - f0) + 1 by omega, List.take_succ_eq_append_getElem (by rw [List.length_drop]; omega), List.getElem_drop]
  have e3 : f0 + (k - f0) = k := by omega
  simp only [e3, e]
/-- behind a # -/
theorem H1.on {s : ByteArray} {w wr : World} {lv wv : Value} {k : Nat} (h : H1 s w lv wv k wr) (hk : kindS s k ≠ 2) : H1 s w lv wv (k + 1) wr := by
  obtain ⟨h1, h2⟩ := h
  have hlt := h1.lt hk
  rw [kindS_in hlt] at hk h2
  have hn := stA_next hlt
  rw [mstep_in hk] at hn
  obtain ⟨d, a, b, f, hst⟩ := st_parts s k
  rw [hst] at hn h1 h2
  cases f with
  | true =>
    rw [wstep_hash rfl] at hn
    exact ⟨h1.same (by omega) (by rw [hn, hst]) (by rw [hn]), .inl (by rw [hn])⟩
  | false =>
    have h3 : kindB s[k] = 3 := by rcases h2 with h | h; · cases h
                                   · exact h
    rw [wstep_at h3] at hn
    exact ⟨h1.same (by omega) (by rw [hn, hst]) (by rw [hn]; exact push_nil _), .inl (by rw [hn])⟩
theorem H1.feed {s : ByteArray} {w wr : World} {lv wv : Value} {k : Nat} (h : H1 s w lv wv k wr) (hk : kindS s k = 2) : H0 s w lv wv k wr :=
  ⟨h.1, fun _ => by omega, fun _ => hk⟩
/-- the word that ends -/
def wordA (s : ByteArray) (f k : Nat) : ByteArray := s.extract f k
theorem un_wordA (s : ByteArray) (f k : Nat) : un (wordA s f k) = ((un s).drop f).take (k - f) := Lib.extract_data s f k
theorem szL_len (x : List Word) : x.length ≤ szL x := by
  have := lens_sz x
  omega
theorem words_len {s : ByteArray} {k : Nat} (hk : k ≤ s.size) : (stA s k).2.1.length ≤ s.size := by
  obtain ⟨_, _, h⟩ := run_ok ((un s).take k)
  have h2 := szL_len (stA s k).2.1
  have h3 : szL (stA s k).2.1 ≤ ((un s).take k).length := Nat.le_trans (by show szL (runB _).2.1 ≤ _; omega) h
  rw [List.length_take, un_len] at h3
  omega
/-- a word more -/
theorem H2.push {s : ByteArray} {w wr w2 : World} {lv wv wv2 : Value} {k f0 : Nat} (h : H2 s w lv wv k f0 wr) (hk : kindS s k ≠ 0) (wk : World) (hw2 : Below wk.heap.size wk w2) (r : List Rw)
    (hr : r.map Prod.fst = mkL ((stA s k).1.filter full)) (ho : OwnL w.heap.size lv r wk) (hwk : Below w.heap.size w wk)
    (hown : w2.ownsRow wk.heap.size 9 1 wv2 ((stA s k).2.1.length + 1) (strs (mkW (stA s k).2.1) ++ [.string (wordA s f0 k)])) : H0 s w lv wv2 k w2 := by
  obtain ⟨h1, h2, h3, h4⟩ := h
  have hle := h1.le
  have hcur : (stA s k).2.2.1 ≠ [] := by
    rw [h4]
    intro e
    have := congrArg List.length e
    rw [List.length_take, List.length_drop, un_len] at this
    simp at this
    omega
  refine ⟨⟨hle, h1.2.1, r, wk, hr, ho, hwk, hw2, ?_⟩, fun _ => hk, fun e => by rw [h2] at e; cases e⟩
  have hm : mk (stA s k).2.2.1 = wordA s f0 k := by rw [h4, ← un_wordA, mk_un]
  rw [push_ne hcur]
  have e : strs (mkW ((stA s k).2.1 ++ [(stA s k).2.2.1])) = strs (mkW (stA s k).2.1) ++ [.string (wordA s f0 k)] := by
    simp only [mkW, strs, List.map_append, List.map_cons, List.map_nil]
    rw [hm]
  rw [e, List.length_append]
  exact hown

/-! the end of a line -/
theorem words_le {s : ByteArray} {k : Nat} (h : kindS s k = 2) : push (stA s k).2.1 (stA s k).2.2.1 ∈ allW (un s) ∨ ¬ k ≤ s.size := by
  by_cases hk : k ≤ s.size
  · refine .inl ?_
    by_cases e : k = s.size
    · rw [e, stA_end]; exact long_last _
    · have hlt : k < s.size := by omega
      rw [kindS_in hlt] at h
      obtain ⟨h2, e2⟩ := at_byte hlt
      exact long_done h2 (by rw [e2]; exact h)
  · exact .inr hk
/-- what Lines answers -/
def LnR (s : ByteArray) (w : World) (e : Ending) (w' : World) : Prop :=
  ∃ u r, e = .returned (.tuple #[u, .int .i64 (lnE (un s))]) ∧ r.map Prod.fst = mkL (lnT (un s)) ∧ OwnL w.heap.size u r w' ∧ Below w.heap.size w w'
theorem LnR.many {s : ByteArray} {w w' : World} (h : lnE (un s) = 4) (hb : Below w.heap.size w w') : LnR s w (.returned (.tuple #[.slice none 0 0, .int .i64 4])) w' :=
  ⟨_, [], by rw [h], by rw [lnT_no h]; rfl, OwnL.nil _ _, hb⟩
/-- too many words -/
theorem H0.long {s : ByteArray} {w wr : World} {lv wv : Value} {k : Nat} (h : H0 s w lv wv k wr) (hk : kindS s k = 2) (hl : 64 < (push (stA s k).2.1 (stA s k).2.2.1).length) : lnE (un s) = 4 := by
  rcases words_le hk with h1 | h1
  · exact lnE_long h1 hl
  · exact absurd h.1.le h1
/-- the line is done: what lines it makes -/
def Done (s : ByteArray) (w : World) (lv : Value) (k : Nat) (w2 : World) : Prop :=
  ∃ r : List Rw, r.map Prod.fst = mkL (((stA s k).1 ++ [push (stA s k).2.1 (stA s k).2.2.1]).filter full) ∧ OwnL w.heap.size lv r w2 ∧ Below w.heap.size w w2
theorem H0.empty {s : ByteArray} {w wr : World} {lv wv : Value} {k : Nat} (h : H0 s w lv wv k wr) (hl : push (stA s k).2.1 (stA s k).2.2.1 = []) : Done s w lv k wr := by
  obtain ⟨_, _, r, wk, h1, h2, h3, h4, _⟩ := h.1
  refine ⟨r, ?_, OwnL.below h2 h4, h3.trans (h4.mono h3.size)⟩
  rw [hl, List.filter_append, h1]
  simp [full]
theorem Done.full {s : ByteArray} {w wx w2 wk : World} {lv lv2 wv : Value} {k : Nat} {W : List Word} {r : List Rw} (hk : push (stA s k).2.1 (stA s k).2.2.1 = W) (hW : W ≠ []) (hr : r.map Prod.fst = mkL ((stA s k).1.filter full)) (h2 : OwnL w.heap.size lv r wk)
    (hwk : Below w.heap.size w wk) (hwx : Below wk.heap.size wk wx) (hx : wx.ownsRow wk.heap.size 9 1 wv W.length (strs (mkW W))) (hg : wx.grownBy w2 lv.ownBlock) (ho : w2.ownsRow w.heap.size 29 1 lv2 (r.length + 1) (r.map Prod.snd ++ [wv])) : Done s w lv2 k w2 := by
  have hO := OwnL.below h2 hwx
  have hbw : Below w.heap.size w wx := hwk.trans (hwx.mono hwk.size)
  refine ⟨r ++ [(mkW W, wv)], ?_, OwnL.snoc hO (owns_base (by simpa using hx) hwk.size) hg ho, own_grown hbw hO.1 hg hbw.size⟩
  rw [hk, List.map_append, hr, List.filter_append]
  have : List.filter LxM.full [W] = [W] := by
    cases W with
    | nil => exact absurd rfl hW
    | cons a t => rfl
  rw [this]
  simp
theorem rows_le {s : ByteArray} {k : Nat} {r : List Rw} (hk : k ≤ s.size) (hr : r.map Prod.fst = mkL ((stA s k).1.filter full)) : r.length ≤ s.size := by
  have h1 : r.length = ((stA s k).1.filter full).length := by
    have := congrArg List.length hr
    simpa [mkL] using this
  have h2 : (stA s k).1.length ≤ ((un s).take k).length := run_len _
  have h3 := List.length_filter_le full (stA s k).1
  rw [List.length_take, un_len] at h2
  omega
theorem Done.next {s : ByteArray} {w w2 : World} {lv : Value} {k : Nat} (h : Done s w lv k w2) (hlt : k < s.size) (hk : kindS s k = 2) (hs : ∀ x ∈ (stA s k).1, x.length ≤ 64) (hl : (push (stA s k).2.1 (stA s k).2.2.1).length ≤ 64) : H0 s w lv (.slice none 0 0) (k + 1) w2 := by
  obtain ⟨r, h1, h2, h3⟩ := h
  rw [kindS_in hlt] at hk
  have hn := stA_next hlt
  rw [mstep_feed hk] at hn
  refine ⟨⟨by omega, ?_, r, w2, by rw [hn]; exact h1, h2, h3, Below.refl _ _, ?_⟩, fun e => ?_, fun e => ?_⟩
  · rw [hn]
    intro x hx
    rcases List.mem_append.1 hx with hx | hx
    · exact hs x hx
    · rw [List.mem_singleton.1 hx]; exact hl
  · rw [hn]
    simp only [w0, push_nil]
    exact World.ownsRow_nil _ _ _ _
  · rw [hn] at e; exact absurd rfl e
  · rw [hn] at e; cases e
theorem Done.end {s : ByteArray} {w w2 : World} {lv : Value} (h : Done s w lv s.size w2) (hsz : s.size ≤ 16384) (hs : ∀ x ∈ (stA s s.size).1, x.length ≤ 64) (hl : (push (stA s s.size).2.1 (stA s s.size).2.2.1).length ≤ 64) : LnR s w (.returned (.tuple #[lv, .int .i64 0])) w2 := by
  obtain ⟨r, h1, h2, h3⟩ := h
  rw [stA_end] at h1 hs hl
  have hE : lnE (un s) = 0 := by
    refine lnE_ok (by rw [un_len]; exact hsz) fun x hx => ?_
    unfold allW fin at hx
    rcases List.mem_append.1 hx with hx | hx
    · exact hs x hx
    · rw [List.mem_singleton.1 hx]; exact hl
  refine ⟨lv, r, by rw [hE], ?_, h2, h3⟩
  rw [h1, lnT_ok hE]
  rfl
end Go.Proofs.YtfnibkepkomcdaaDoor.LxJ
