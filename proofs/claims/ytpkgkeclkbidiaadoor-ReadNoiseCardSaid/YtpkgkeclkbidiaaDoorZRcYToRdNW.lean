/- What is read is of bounded size: lines of a text, and the program of them. Walk over read.Read. What Read and Lines answer, as the laws use it. Walks over fescuelaw07.text and odd. Walk over fescuelaw07.alive. Plain facts: the chapter's text with an int's word in it. Walk over fescuelaw07.ReadNoise. -/
import Derived.Test.YtpkgkeclkbidiaaDoorZRcX
import Derived.Test.YtpkgkeclkbidiaaDoorZShIToRdX
import Derived.Test.YtpkgkeclkbidiaaDoorZLxKToRdV
import Derived.Test.YtpkgkeclkbidiaaDoorZShRV
import Derived.Test.YtpkgkeclkbidiaaDoorZLxMToRdNo
namespace Go.Proofs.YtpkgkeclkbidiaaDoor.RcY
open Go.RowKit Go.Lib TyM TyP ShM ShP LxM LxJ LxY RdM RdN RdV RcP
open ShI (POk chkP)

/-! numbers of an instruction, of an end -/
def OkI (y : Ix) : Prop := (0 ≤ y.op ∧ y.op ≤ 22) ∧ y.args.length ≤ 64 ∧ y.frm.length ≤ 64
def OkB (x : Bx) : Prop := (0 ≤ x.en.kind ∧ x.en.kind ≤ 255) ∧ ∀ y ∈ x.ins, OkI y
theorem rest_ok {op typ a c : Int} {m : Ln} {y : Ix} (h : restP op typ a c m = some y) : y.op = op ∧ y.args.length ≤ m.length ∧ y.frm = [] := by
  unfold restP at h
  split at h
  · split at h
    · cases h
    · split at h
      · cases h
      · rename_i q hq
        split at h
        · cases h
          have := marks_len hq
          rw [List.length_drop] at this
          exact ⟨rfl, by simp only; omega, rfl⟩
        · cases h
  · split at h
    · cases h
    · rename_i q hq
      split at h
      · cases h
        have := marks_len hq
        exact ⟨rfl, by simp only; omega, rfl⟩
      · cases h
theorem has_ok {op typ : Int} {l : Ln} {y : Ix} (h : hasP op typ l = some y) : y.op = op ∧ y.args.length ≤ l.length ∧ y.frm.length ≤ l.length := by
  unfold hasP at h
  split at h
  · rename_i ho
    unfold phiP ix0 at h
    cases hp : pairsO l with
    | none => rw [hp] at h; cases h
    | some r =>
      rw [hp] at h
      cases h
      have := pairs_len hp
      simp
      omega
  · split at h
    · cases h
    · split at h
      · cases h
      · obtain ⟨h1, h2, h3⟩ := rest_ok h
        rw [List.length_drop] at h2
        exact ⟨h1, by omega, by rw [h3]; simp⟩
theorem ins_ok {l : Ln} {reg : Int} {y : Ix} (hl : l.length ≤ 64) (h : insP l reg = some y) : OkI y := by
  have hop : ∀ k, 0 ≤ ((opW l k : Nat) : Int) ∧ ((opW l k : Nat) : Int) ≤ 22 := fun k => by
    have := op_le (un (l.getD k ⟨#[]⟩))
    unfold opW
    omega
  unfold insP at h
  split at h
  · split at h
    · obtain ⟨h1, h2, h3⟩ := has_ok h
      rw [List.length_drop] at h2 h3
      exact ⟨by rw [h1]; exact hop 3, by omega, by omega⟩
    · cases h
  · split at h
    · cases h
    · obtain ⟨h1, h2, h3⟩ := has_ok h
      rw [List.length_drop] at h2 h3
      exact ⟨by rw [h1]; exact hop 0, by omega, by omega⟩
theorem end_ok {l : Ln} {x : Ex} (h : endP l = some x) : 0 ≤ x.kind ∧ x.kind ≤ 255 := by
  unfold endP at h
  split at h
  · split at h
    · cases h; simp
    · cases h
  · split at h
    · cases h
    · split at h
      · split at h
        · cases h; simp
        · cases h
      · split at h
        · split at h
          · cases h; simp
          · cases h
        · cases h
theorem block_ok : ∀ {L : List Ln} {reg : Int} {x : Bx} {n : Nat}, FineL L → blockP L reg = some (x, n) → OkB x
  | [], _, _, _, _, h => by cases h
  | l :: L, reg, x, n, hf, h => by
    unfold blockP at h
    split at h
    · cases he : endP l with
      | none => rw [he] at h; cases h
      | some e => rw [he] at h; cases h; exact ⟨end_ok he, by simp⟩
    · split at h
      · cases h
      · rename_i y hy
        cases hb : blockP L (reg + 1) with
        | none => rw [hb] at h; cases h
        | some r =>
          obtain ⟨r, m⟩ := r
          rw [hb] at h; cases h
          have h1 := block_ok hf.tail hb
          refine ⟨h1.1, fun z hz => ?_⟩
          rcases List.mem_cons.1 hz with rfl | hz
          · exact ins_ok hf.head.2.1 hy
          · exact h1.2 z hz
theorem blocks_ok : ∀ (k : Nat) {L : List Ln} {reg : Int} {bs : List Bx} {n : Nat}, L.length ≤ k → FineL L → blocksP L reg = some (bs, n) → ∀ x ∈ bs, OkB x
  | 0, L, reg, bs, n, hk, _, h => by
    obtain rfl : L = [] := List.eq_nil_of_length_eq_zero (by omega)
    rw [blocks_nil] at h; cases h; simp
  | k + 1, [], reg, bs, n, hk, _, h => by
    rw [blocks_nil] at h; cases h; simp
  | k + 1, l :: M, reg, bs, n, hk, hf, h => by
    rw [blocks_cons] at h
    split at h
    · split at h
      · cases hb : blockP M reg with
        | none => rw [hb] at h; cases h
        | some r =>
          obtain ⟨b, n1⟩ := r
          rw [hb] at h
          simp only at h
          cases hc : blocksP (M.drop n1) (reg + b.ins.length) with
          | none => rw [hc] at h; cases h
          | some r =>
            obtain ⟨bs2, m⟩ := r
            rw [hc] at h
            cases h
            have h2 := blocks_ok k (by rw [List.length_drop]; simp at hk; omega) (hf.tail.drop n1) hc
            intro x hx
            rcases List.mem_cons.1 hx with rfl | hx
            · exact block_ok hf.tail hb
            · exact h2 x hx
      · cases h
    · cases h; simp
theorem manyL_le {bs : List Bx} : bs.length + manyB bs ≤ manyL bs := by
  induction bs with
  | nil => simp [manyB, manyL]
  | cons b bs ih =>
    unfold manyB manyL at *
    simp only [List.map_cons, List.sum_cons, List.length_cons]
    omega
theorem funcs_ok : ∀ (k : Nat) {ts : List Ty} {L : List Ln} {fs : List Fx}, L.length ≤ k → FineL L → funcsP ts L = some fs → fs.length ≤ L.length ∧ ∀ f ∈ fs, manyL f.blocks ≤ L.length ∧ ∀ x ∈ f.blocks, OkB x
  | 0, ts, L, fs, hk, _, h => by
    obtain rfl : L = [] := List.eq_nil_of_length_eq_zero (by omega)
    rw [funcs_nil] at h; cases h; simp
  | k + 1, ts, [], fs, hk, _, h => by
    rw [funcs_nil] at h; cases h; simp
  | k + 1, ts, l :: M, fs, hk, hf, h => by
    rw [funcs_cons] at h
    split at h
    · split at h
      · cases hb : funcP ts (mkN (l.getD 1 ⟨#[]⟩) 116).1 M with
        | none => rw [hb] at h; cases h
        | some r =>
          obtain ⟨f, n⟩ := r
          rw [hb] at h
          simp only at h
          cases hc : funcsP ts (M.drop n) with
          | none => rw [hc] at h; cases h
          | some gs =>
            rw [hc] at h
            cases h
            have h1 := func_len hb
            have h2 := funcs_ok k (by rw [List.length_drop]; simp at hk; omega) (hf.tail.drop n) hc
            rw [List.length_drop] at h2
            refine ⟨by simp; omega, fun g hg => ?_⟩
            rcases List.mem_cons.1 hg with rfl | hg
            · refine ⟨by simp; omega, ?_⟩
              unfold funcP at hb
              cases hq : blocksP M (regOf ts (mkN (l.getD 1 ⟨#[]⟩) 116).1) with
              | none => rw [hq] at hb; cases hb
              | some r =>
                obtain ⟨bs, m⟩ := r
                rw [hq] at hb
                cases hb
                exact blocks_ok _ (Nat.le_refl _) hf.tail hq
            · have := h2.2 g hg
              exact ⟨by simp; omega, this.2⟩
      · cases h
    · cases h
theorem types_ok : ∀ {L : List Ln} {ts : List Ty} {M : List Ln}, FineL L → typesP L = some (ts, M) → FineL M ∧ ∀ t ∈ ts, t.parts.length ≤ 64
  | [], ts, M, hf, h => by cases h; exact ⟨hf, by simp⟩
  | l :: L, ts, M, hf, h => by
    unfold typesP at h
    split at h
    · split at h
      · cases h
      · rename_i t hk
        cases ht : typesP L with
        | none => rw [ht] at h; cases h
        | some r =>
          obtain ⟨a, b⟩ := r
          rw [ht] at h; cases h
          have h1 := types_ok hf.tail ht
          refine ⟨h1.1, fun x hx => ?_⟩
          rcases List.mem_cons.1 hx with rfl | hx
          · have h2 := RcX.typ_parts hk
            have h3 := hf.head.2.1
            rw [List.length_drop] at h2
            omega
          · exact h1.2 x hx
    · cases h; exact ⟨hf, by simp⟩
theorem prog_ok {L : List Ln} {p : Px} (hf : FineL L) (h : programP L = some p) : Small p ∧ POk p := by
  unfold programP at h
  split at h
  · cases h
  · rename_i ts M ht
    cases hg : funcsP ts M with
    | none => rw [hg] at h; cases h
    | some fs =>
      rw [hg] at h
      cases h
      have h1 := types_ok hf ht
      have h2 := types_len ht
      have h3 := hf.1
      have h4 := funcs_ok _ (Nat.le_refl _) h1.1 hg
      refine ⟨⟨by simp only; omega, fun x hx => by have := h1.2 x hx; omega, by simp only; omega, fun f hx => ?_, fun f hx => ?_, fun f hx b hb y hy => ?_⟩, fun f hx b hb => ⟨((h4.2 f hx).2 b hb).1, fun y hy => ?_⟩⟩
      · have := (h4.2 f hx).1
        have := @manyL_le f.blocks
        omega
      · have := (h4.2 f hx).1
        have := @manyL_le f.blocks
        omega
      · have := ((h4.2 f hx).2 b hb).2 y hy
        exact ⟨by have := this.2.1; omega, by have := this.2.2; omega⟩
      · have := (((h4.2 f hx).2 b hb).2 y hy).1
        omega

/-! the lines of a text -/
theorem sz_word {x : List Word} {u : Word} (h : u ∈ x) : u.length + 1 ≤ szL x := by
  induction x with
  | nil => cases h
  | cons v x ih =>
    have e : szL (v :: x) = v.length + 1 + szL x := by simp [szL]
    rcases List.mem_cons.1 h with rfl | h
    · omega
    · have := ih h; omega
theorem sz_line {l : List (List Word)} {x : List Word} (h : x ∈ l) : szL x ≤ szT l := by
  induction l with
  | nil => cases h
  | cons v l ih =>
    have e : szT (v :: l) = szL v + szT l := by simp [szT]
    rcases List.mem_cons.1 h with rfl | h
    · omega
    · have := ih h; omega
theorem sz_many {l : List (List Word)} (h : ∀ x ∈ l, x ≠ []) : l.length ≤ szT l := by
  induction l with
  | nil => simp
  | cons v l ih =>
    have e : szT (v :: l) = szL v + szT l := by simp [szT]
    have h1 := ih fun x hx => h x (List.mem_cons_of_mem _ hx)
    have h2 : 1 ≤ szL v := by
      cases v with
      | nil => exact absurd rfl (h [] (List.mem_cons_self ..))
      | cons u v =>
        have := sz_word (x := u :: v) (List.mem_cons_self ..)
        omega
    simp only [List.length_cons]
    omega
theorem fine_lines {s : List UInt8} (h : lnE s = 0) : FineL (LxJ.mkL (lnT s)) := by
  obtain ⟨h1, h2⟩ := lnE_zero h
  obtain ⟨h3, h4⟩ := all_ok s
  rw [lnT_ok h]
  have h5 := szT_filter (allW s)
  have hne : ∀ x ∈ (allW s).filter full, x ≠ [] := fun x hx => full_ne (List.mem_filter.1 hx).2
  have h6 := sz_many hne
  refine ⟨?_, fun l hl => ?_⟩
  · show ((((allW s).filter full).map fun x => x.map mk)).length ≤ _
    rw [List.length_map]
    omega
  · obtain ⟨x, hx, rfl⟩ := List.mem_map.1 (show l ∈ (((allW s).filter full).map fun x => x.map mk) from hl)
    have h7 := List.mem_filter.1 hx
    have h8 := List.length_pos_iff.2 (hne x hx)
    refine ⟨by rw [List.length_map]; omega, by rw [List.length_map]; exact h2 x h7.1, fun y hy => ?_⟩
    obtain ⟨u, hu, rfl⟩ := List.mem_map.1 hy
    have h9 := (mayB_iff.1 (h3 x h7.1 u hu)).1
    have h10 := sz_word hu
    have h11 := sz_line (l := (allW s).filter full) hx
    refine ⟨by rw [un_mk]; exact h9, ?_⟩
    rw [← un_len, un_mk]
    omega
end Go.Proofs.YtpkgkeclkbidiaaDoor.RcY
namespace Go.Proofs.YtpkgkeclkbidiaaDoor.RcZ
open Go.RowKit Go.Lib TyM TyP ShM ShP ShB IntO SetP LxM LxJ LxY RwO RdM RdN RdV RdB Aft RcP RcO RcT RcW RcX RcY
open ShI (POk chkP)
open LxP (LinesAt StrsAt OwnL)

/-- a text's program, or the error -/
def px0 : Px := ⟨[], []⟩
def readO (s : List UInt8) : Int × Px :=
  if lnE s = 0 then (match programP (LxJ.mkL (lnT s)) with
    | none => (70, px0)
    | some p => if chkP p = 0 then (0, p) else (chkP p, px0)) else (lnE s, px0)
def ReadO (s : ByteArray) (w : World) (e : Ending) (w' : World) : Prop := ∃ v, e = .returned (.tuple #[v, .int .i64 (readO (un s)).1]) ∧ PrAt w' v (readO (un s)).2 ∧ Below w.heap.size w w'
theorem pr_zero (w : World) : PrAt w (.agg #[.slice none 0 0, .slice none 0 0]) px0 := ⟨_, _, rfl, ⟨none, 0, rfl, by simp [px0], (fun h => by simp [px0] at h), (fun _ => rfl), by simp [px0]⟩, RowAt.none w⟩
theorem pr_agg {w : World} {v : Value} {q : Px} (h : PrAt w v q) : ∃ ta tn tc fa fn fc, v = .agg #[.slice ta tn tc, .slice fa fn fc] := by
  obtain ⟨vt, vf, rfl, h1, h2⟩ := h
  obtain ⟨ta, tc, rfl⟩ := h1.slice
  obtain ⟨fa, fc, rfl, _⟩ := h2.slice
  exact ⟨_, _, _, _, _, _, rfl⟩
set_option maxRecDepth 100000 in
set_option maxHeartbeats 8000000 in
theorem read_calls (s : ByteArray) (w : World) (hk : LxK.Tab w) (htab : ShA.Tab w) (hto : TabO w) : Calls Tryd.prog 7 #[.string s] w (ReadO s w) := by
  have hb0 := alloc_below w (.cells #[.slice none 0 0, .slice none 0 0] 25)
  have HL := hid (LxL.lines_calls s (w.alloc (.cells #[.slice none 0 0, .slice none 0 0] 25)) (hk.on hb0))
  have HTAB := hid (htab.on hb0)
  have HTO := hid (hto.on hb0)
  have HB0 := hid hb0
  have HN0 : Hid ((w.alloc (.cells #[.slice none 0 0, .slice none 0 0] 25)).heap[w.heap.size]? = some (.cells #[.slice none 0 0, .slice none 0 0] 25 (0, 0))) := alloc_new _ _
  have HOO : Hid (readO (un s) = if lnE (un s) = 0 then (match programP (LxJ.mkL (lnT (un s))) with
    | none => (70, px0)
    | some p => if chkP p = 0 then (0, p) else (chkP p, px0)) else (lnE (un s), px0)) := rfl
  have HPO : Hid (∀ (oo : Int × Px) e w', oo = readO (un s) → (∃ v, e = .returned (.tuple #[v, .int .i64 oo.1]) ∧ PrAt w' v oo.2 ∧ Below w.heap.size w w') → ReadO s w e w') := fun oo e w' h1 h2 => by subst h1; exact h2
  have HFL := hid (fun h => fine_lines (s := un s) h)
  unfold LxJ.LnR at HL
  generalize lnT (un s) = ll at *
  generalize hle : lnE (un s) = le at *
  clear hk htab hto hb0 hle
  obtain ⟨oo, hoo⟩ : ∃ o, o = readO (un s) := ⟨_, rfl⟩
  have HE : Hid (oo = if le = 0 then (match programP (LxJ.mkL ll) with
    | none => (70, px0)
    | some p => if chkP p = 0 then (0, p) else (chkP p, px0)) else (le, px0)) := by show _ = _; rw [hoo]; exact HOO.out
  refine Calls.mono (R := fun e w' => ∃ v, e = .returned (.tuple #[v, .int .i64 oo.1]) ∧ PrAt w' v oo.2 ∧ Below w.heap.size w w') ?_ (fun e w' h => HPO.out oo e w' hoo h)
  clear hoo HOO HPO
  go_enter Tryd.func7, Tryd.ntmps7
  go_wp2_with fail
  refine HL.out.mono ?_
  rintro e w1 ⟨u, r, rfl, hr, how, hb1⟩
  have HB1 := hid (HB0.out.trans (hb1.mono HB0.out.size))
  have HN1 := hid ((hb1.block w.heap.size (by simp)).trans HN0.out)
  have HS1 : Hid (w.heap.size < w1.heap.size) := by have := hb1.size; show _ < _; simp only [World.size_alloc] at this; omega
  have HT1 := hid (HTAB.out.on hb1)
  have HU1 := hid (HTO.out.on hb1)
  have HR := hid hr
  have HOW := hid how
  clear hr how hb1 HL HTAB HTO HN0 HB0
  by_cases h0 : le = 0
  rotate_left
  · have hne : (le != 0) = true := by simpa using h0
    have HE2 : Hid (oo = (le, px0)) := by show _ = _; rw [HE.out, if_neg h0]
    clear HE h0 HFL HOW HR HT1 HU1
    have hn := HN1.out
    have y0 := cells_of hn 0 _ rfl; have y1 := cells_of hn 1 _ rfl
    have hz := (ShTB.cells_heap hn).2
    have z0 := hz 0; have z1 := hz 1
    obtain ⟨X5, hX5, hne5, hk5, hb5⟩ := set2_world w1 w.heap.size 25 (.slice none 0 0) (.slice none 0 0) (.slice none 0 0) (.slice none 0 0) hn
    have HX5 := hid hX5
    have HB5 := hid (hb5 w.heap.size w HB1.out (Nat.le_refl _))
    have x0 := cells_of hk5 0 _ rfl; have x1 := cells_of hk5 1 _ rfl
    clear HN1 HS1
    clear hn hz hX5 hne5 hk5 hb5
    go_wp2
    (try simp only [Exit.inBlock, Exit.then])
    rw [← HX5.out]
    refine bodyPost_ret (by simp [results, Tryd.results7, go_sem, x0, x1]; try rfl) rfl ?_
    exact ⟨_, by rw [HE2.out], by rw [HE2.out]; exact pr_zero _, HB5.out⟩
  subst h0
  have HF := hid (HFL.out rfl)
  have hru : r.length ≤ 9223372036854775807 := by
    have h1 := HF.out.1
    rw [← HR.out, List.length_map] at h1
    omega
  have hli : LinesAt w1 u (LxJ.mkL ll) := by
    rw [← HR.out]
    exact HOW.out.lines hru fun x hx => by
      have h1 := (HF.out.2 x.1 (by rw [← HR.out]; exact List.mem_map_of_mem hx)).2.1
      omega
  have HPC := hid (program_calls (LxJ.mkL ll) u w1 hli HF.out HT1.out HU1.out)
  obtain ⟨ua, uc, rfl⟩ := LxP.own_slice HOW.out.1
  clear HFL hru hli HOW HU1
  cases hp : programP (LxJ.mkL ll) with
  | none =>
    have HE2 : Hid (oo = (70, px0)) := by show _ = _; rw [HE.out, if_pos rfl, hp]
    rw [hp] at HPC
    unfold ProgO at HPC
    clear HE hp
    generalize r.length = rl at *
    go_wp2_with fail
    refine HPC.out.mono ?_
    rintro e w2 ⟨rfl, hb2⟩
    obtain ⟨X3, hX3⟩ : ∃ X, X = w2.alloc (.cells #[.slice none 0 0, .slice none 0 0] 25) := ⟨_, rfl⟩
    have hb3 : Below w2.heap.size w2 X3 := by rw [hX3]; exact alloc_below _ _
    have HX3 := hid hX3
    have HB3 := hid (HB1.out.trans ((hb2.mono (Nat.le_of_lt HS1.out)).trans (hb3.mono (by have := HS1.out; have := hb2.size; omega))))
    have HN3 := hid ((hb3.block _ (by have := HS1.out; have := hb2.size; omega)).trans ((hb2.block _ HS1.out).trans HN1.out))
    clear hb2 hb3 hX3 HPC HN1 HB1
    go_upto_region 8 with fail
    rw [← HX3.out]
    have hn := HN3.out
    have y0 := cells_of hn 0 _ rfl; have y1 := cells_of hn 1 _ rfl
    have hz := (ShTB.cells_heap hn).2
    have z0 := hz 0; have z1 := hz 1
    obtain ⟨X5, hX5, hne5, hk5, hb5⟩ := set2_world X3 w.heap.size 25 (.slice none 0 0) (.slice none 0 0) (.slice none 0 0) (.slice none 0 0) hn
    have HX5 := hid hX5
    have HB5 := hid (hb5 w.heap.size w HB3.out (Nat.le_refl _))
    have x0 := cells_of hk5 0 _ rfl; have x1 := cells_of hk5 1 _ rfl
    clear HN3 HX3
    clear hn hz hX5 hne5 hk5 hb5
    go_wp2
    (try simp only [Exit.inBlock, Exit.then])
    rw [← HX5.out]
    refine bodyPost_ret (by simp [results, Tryd.results7, go_sem, x0, x1]; try rfl) rfl ?_
    exact ⟨_, by rw [HE2.out], by rw [HE2.out]; exact pr_zero _, HB5.out⟩
  | some q =>
    have hok := prog_ok HF.out hp
    have HE2 : Hid (oo = if chkP q = 0 then (0, q) else (chkP q, px0)) := by show _ = _; rw [HE.out, if_pos rfl, hp]
    rw [hp] at HPC
    unfold ProgO at HPC
    have HOK := hid hok
    clear HE hp hok
    generalize r.length = rl at *
    go_wp2_with fail
    refine HPC.out.mono ?_
    rintro e w2 ⟨v, rfl, hpn, hb2⟩
    have hpr : PrAt w2 v q := hpn w2 fun _ _ _ => rfl
    obtain ⟨ta, tn, tc, fa, fk, fc, rfl⟩ := pr_agg hpr
    obtain ⟨X3, hX3⟩ : ∃ X, X = w2.alloc (.cells #[.slice ta tn tc, .slice fa fk fc] 25) := ⟨_, rfl⟩
    have hb3 : Below w2.heap.size w2 X3 := by rw [hX3]; exact alloc_below _ _
    have HX3 := hid hX3
    have HQ3 : Hid (X3.heap[w2.heap.size]? = some (.cells #[.slice ta tn tc, .slice fa fk fc] 25 (0, 0))) := by show _ = _; rw [hX3]; exact alloc_new _ _
    have HPN := hid hpn
    have HB23 := hid hb3
    have HC := hid (ShI.check_calls q _ X3 (hpr.below hb3) ((HT1.out.on hb2).on hb3) HOK.out.1 HOK.out.2)
    have HSZ : Hid (w2.heap.size < X3.heap.size) := by show _ < _; rw [hX3]; simp
    have HB3 := hid (HB1.out.trans ((hb2.mono (Nat.le_of_lt HS1.out)).trans (hb3.mono (by have := HS1.out; have := hb2.size; omega))))
    have HN3 := hid ((hb3.block _ (by have := HS1.out; have := hb2.size; omega)).trans ((hb2.block _ HS1.out).trans HN1.out))
    have HS3 : Hid (w.heap.size < w2.heap.size) := by have := hb2.size; have := HS1.out; show _ < _; omega
    have f0 := cells_of HQ3.out 0 _ rfl
    have f1 := cells_of HQ3.out 1 _ rfl
    rw [hX3] at f0 f1
    clear hb2 hb3 hX3 HPC HN1 HB1 hpr hpn HT1
    go_wp2_with fail
    rw [← HX3.out]
    clear HX3 f0 f1
    refine HC.out.mono ?_
    rintro e w4 ⟨rfl, hb4⟩
    have HB4 := hid (HB3.out.trans (hb4.mono (by have := HS3.out; have := HSZ.out; omega)))
    have HN4 := hid ((hb4.block _ (by have := HS3.out; have := HSZ.out; omega)).trans HN3.out)
    have HQ4 := hid ((hb4.block _ HSZ.out).trans HQ3.out)
    have HB34 := hid hb4
    clear hb4 HC HB3 HN3 HQ3
    generalize chkP q = ce at *
    by_cases hc : ce = 0
    · subst hc
      rw [if_pos rfl] at HE2
      have f0 := cells_of HQ4.out 0 _ rfl
      have f1 := cells_of HQ4.out 1 _ rfl
      have hn := HN4.out
      have y0 := cells_of hn 0 _ rfl; have y1 := cells_of hn 1 _ rfl
      have hz := (ShTB.cells_heap hn).2
      have z0 := hz 0; have z1 := hz 1
      obtain ⟨X5, hX5, hne5, hk5, hb5⟩ := set2_world w4 w.heap.size 25 (.slice none 0 0) (.slice none 0 0) (.slice ta tn tc) (.slice fa fk fc) hn
      have HX5 := hid hX5
      have HB5 := hid (hb5 w.heap.size w HB4.out (Nat.le_refl _))
      have x0 := cells_of hk5 0 _ rfl; have x1 := cells_of hk5 1 _ rfl
      have HPR5 : Hid (PrAt X5 (.agg #[.slice ta tn tc, .slice fa fk fc]) q) := HPN.out X5 fun k h1 h2 => by
        have h3 := HS1.out
        have h4 := HSZ.out
        exact (hne5 k (by omega)).trans ((HB34.out.block k (by omega)).trans (HB23.out.block k h2))
      clear HN4 HQ4 HPN HB34 HB23
      clear hn hz hX5 hne5 hk5 hb5
      go_wp2
      (try simp only [Exit.inBlock, Exit.then])
      rw [← HX5.out]
      refine bodyPost_ret (by simp [results, Tryd.results7, go_sem, x0, x1]; try rfl) rfl ?_
      exact ⟨_, by rw [HE2.out], by rw [HE2.out]; exact HPR5.out, HB5.out⟩
    · rw [if_neg hc] at HE2
      have hne : (ce != 0) = true := by simpa using hc
      have hn := HN4.out
      have y0 := cells_of hn 0 _ rfl; have y1 := cells_of hn 1 _ rfl
      have hz := (ShTB.cells_heap hn).2
      have z0 := hz 0; have z1 := hz 1
      obtain ⟨X5, hX5, hne5, hk5, hb5⟩ := set2_world w4 w.heap.size 25 (.slice none 0 0) (.slice none 0 0) (.slice none 0 0) (.slice none 0 0) hn
      have HX5 := hid hX5
      have HB5 := hid (hb5 w.heap.size w HB4.out (Nat.le_refl _))
      have x0 := cells_of hk5 0 _ rfl; have x1 := cells_of hk5 1 _ rfl
      clear HN4 HQ4 hc
      clear hn hz hX5 hne5 hk5 hb5
      go_wp2
      (try simp only [Exit.inBlock, Exit.then])
      rw [← HX5.out]
      refine bodyPost_ret (by simp [results, Tryd.results7, go_sem, x0, x1]; try rfl) rfl ?_
      exact ⟨_, by rw [HE2.out], by rw [HE2.out]; exact pr_zero _, HB5.out⟩
end Go.Proofs.YtpkgkeclkbidiaaDoor.RcZ
namespace Go.Proofs.YtpkgkeclkbidiaaDoor.RdFa
open Go.RowKit Go.Lib RwO SetP IntO TyM TyP ShM ShP ShB LxM LxP LxK LxJ RdM RdV Aft RcP RcO RcT RcY RcZ
open ShI (POk chkP)

/-- what Lines answers, as it lies in memory -/
def LnA (s : ByteArray) (w : World) (e : Ending) (w' : World) : Prop :=
  ∃ u, e = .returned (.tuple #[u, .int .i64 (lnE (un s))]) ∧ LinesAt w' u (mkL (lnT (un s))) ∧ Below w.heap.size w w'
theorem lnT_len (s : List UInt8) : (lnT s).length ≤ 16385 ∧ ∀ x ∈ lnT s, x.length ≤ 64 := by
  rcases lnE_cases s with h | h
  · obtain ⟨h1, h2⟩ := lnE_zero h
    rw [lnT_ok h]
    refine ⟨?_, fun x hx => h2 x (List.mem_filter.1 hx).1⟩
    have h3 := List.length_filter_le full (allW s)
    have h4 := run_len s
    have h5 : (allW s).length = (runB s).1.length + 1 := by unfold allW fin; simp
    omega
  · rw [lnT_no h]; simp
theorem lna {s : ByteArray} {w w' : World} {e : Ending} (h : LnR s w e w') : LnA s w e w' := by
  obtain ⟨u, r, rfl, h1, h2, h3⟩ := h
  obtain ⟨h4, h5⟩ := lnT_len (un s)
  refine ⟨u, rfl, ?_, h3⟩
  rw [← h1]
  have hr : r.length = (lnT (un s)).length := by
    have := congrArg List.length h1
    simpa [mkL] using this
  refine OwnL.lines h2 (by omega) fun x hx => ?_
  have hm : x.1 ∈ mkL (lnT (un s)) := by rw [← h1]; exact List.mem_map_of_mem hx
  obtain ⟨y, hy, hxy⟩ := List.mem_map.1 hm
  have := h5 y hy
  rw [← hxy]
  simp; omega

set_option maxHeartbeats 1000000 in
theorem lines_at (s : ByteArray) (w : World) (hk : LxK.Tab w) : Calls Tryd.prog 11 #[.string s] w (LnA s w) := (LxL.lines_calls s w hk).mono fun _ _ h => lna h
/-- a program that is read -/
theorem read_zero {l : List UInt8} {p : Px} (h : readO l = (0, p)) : lnE l = 0 ∧ programP (mkL (lnT l)) = some p ∧ chkP p = 0 := by
  unfold readO at h
  by_cases h0 : lnE l = 0
  · rw [if_pos h0] at h
    cases hp : programP (mkL (lnT l)) with
    | none => rw [hp] at h; cases h
    | some q =>
      rw [hp] at h
      simp only at h
      by_cases hc : chkP q = 0
      · rw [if_pos hc] at h; cases h; exact ⟨h0, rfl, hc⟩
      · rw [if_neg hc] at h
        exact absurd (congrArg Prod.fst h) hc
  · rw [if_neg h0] at h
    exact absurd (congrArg Prod.fst h) h0
/-- none -/
theorem read_off {l : List UInt8} {e : Int} {p : Px} (h : readO l = (e, p)) (he : e ≠ 0) : p = px0 := by
  unfold readO at h
  by_cases h0 : lnE l = 0
  · rw [if_pos h0] at h
    cases hp : programP (mkL (lnT l)) with
    | none => rw [hp] at h; cases h; rfl
    | some q =>
      rw [hp] at h
      simp only at h
      by_cases hc : chkP q = 0
      · rw [if_pos hc] at h; cases h; exact absurd rfl he
      · rw [if_neg hc] at h; cases h; rfl
  · rw [if_neg h0] at h; cases h; rfl
/-- where its lines are none, what is read is their error -/
theorem read_lines {l : List UInt8} (h : lnE l ≠ 0) : readO l = (lnE l, px0) := by
  unfold readO
  rw [if_neg h]
/-- what is read hangs on the lines alone -/
theorem read_same {a b : List UInt8} (h1 : lnE a = lnE b) (h2 : lnT a = lnT b) : readO a = readO b := by
  unfold readO
  rw [h1, h2]
end Go.Proofs.YtpkgkeclkbidiaaDoor.RdFa
namespace Go.Proofs.YtpkgkeclkbidiaaDoor.RdOd
open Go.RowKit Go.Lib RwO SetP IntO TyM TyP TyB ShM ShP ShB LxP LxJ RdM Aft RcO RcT RcZ

/-- the text ahead of the last lines -/
def preL : List UInt8 := [116, 121, 112, 101, 32, 105, 110, 116, 10, 116, 121, 112, 101, 32, 102, 110, 32, 116, 48, 10, 102, 117, 110, 99, 32, 116, 49, 10, 98, 108, 111, 99, 107, 10, 114, 48, 32, 116, 48, 32, 61, 32, 105, 110, 116, 32, 53, 10, 106, 117, 109, 112, 32, 98, 49, 10, 98, 108, 111, 99, 107, 10]
/-- no program, and that error -/
def oddR (r : Int × Px) (want : Int) : Bool := decide (r.1 = want) && (decide (r.2.funcs.length = 0) && decide (r.2.types.length = 0))
def oddB (l : List UInt8) (want : Int) : Bool := oddR (readO l) want
theorem un_mk (l : List UInt8) : un (mk l) = l := rfl
theorem mk_un (s : ByteArray) : mk (un s) = s := rfl
theorem text_calls (l : List UInt8) (hl : l.length ≤ 100000) (w : World) : Calls Tryd.prog 9 #[.string (mk l)] w fun e w' => e = .returned (.string (mk (preL ++ l))) ∧ w' = w := by
  have hadd : ∀ wx, (Op.stringOp .add ⟨preL.toArray⟩ (mk l)).run Tryd.prog wx = .ok (.string (mk (preL ++ l))) wx := fun wx => run_string_add_lists wx preL l (by decide) (by omega)
  unfold preL at hadd ⊢
  go_enter Tryd.func9, Tryd.ntmps9
  go_wp2
  go_ret
  exact ⟨rfl, rfl⟩
theorem zero_nat (n : Nat) : ((n : Int) == 0) = decide (n = 0) := by
  rw [Bool.eq_iff_iff, beq_iff_eq, decide_eq_true_iff]
  omega
set_option maxHeartbeats 2000000 in
theorem odd_calls (s : ByteArray) (want : Int) (w : World) (hk : LxK.Tab w) (htab : ShA.Tab w) (hto : TabO w) :
    Calls Tryd.prog 8 #[.string s, .int .i64 want] w (BoolR (oddB (un s) want) w) := by
  have HA := hid (read_calls s w hk htab hto)
  unfold ReadO at HA
  obtain ⟨bb, hbb⟩ : ∃ b, b = oddB (un s) want := ⟨_, rfl⟩
  rw [← hbb]
  unfold oddB at hbb
  generalize readO (un s) = ro at *
  obtain ⟨er, p⟩ := ro
  simp only at HA
  clear hk htab hto
  have HW := hid (Below.refl w.heap.size w)
  go_enter Tryd.func8, Tryd.ntmps8
  go_wp2_with fail
  refine HA.out.mono ?_
  rintro e w1 ⟨v, rfl, hp, b1⟩
  obtain ⟨vt, vf, rfl, hvt, hvf⟩ := hp
  obtain ⟨ta, tc, rfl⟩ := hvt.slice
  obtain ⟨fa, fc, rfl, _⟩ := hvf.slice
  obtain ⟨W2, hW2⟩ : ∃ W2, W2 = w1.alloc (.cells #[.slice ta p.types.length tc, .slice fa p.funcs.length fc] 25) := ⟨_, rfl⟩
  have k2 : W2.heap[w1.heap.size]? = some (.cells #[.slice ta p.types.length tc, .slice fa p.funcs.length fc] 25 (0, 0)) := by rw [hW2]; exact alloc_new _ _
  have hA2 : Aft w W2 := by rw [hW2]; exact (Aft.go (Aft.refl w) b1).alloc _
  have x0 := RdB.cells_of k2 0 _ rfl; have x1 := RdB.cells_of k2 1 _ rfl
  have HW2 := hid hW2
  have HB2 := hid hA2
  clear hW2 hA2 k2 b1 hvt hvf HA
  unfold oddR at hbb
  simp only at hbb
  have c1 : (er == want) = decide (er = want) := rfl
  have c2 := zero_nat p.funcs.length
  have c3 := zero_nat p.types.length
  generalize p.funcs.length = nf at *
  generalize p.types.length = nt at *
  by_cases h1 : er = want
  · rw [decide_eq_true h1] at c1 hbb
    by_cases h2 : nf = 0
    · rw [decide_eq_true h2] at c2 hbb
      generalize decide (nt = 0) = b3 at *
      have HBB : Hid (bb = b3) := hbb
      clear h1 h2 hbb
      go_upto_region 2 with fail
      rw [← HW2.out]
      go_wp2
      go_ret
      exact ⟨by rw [HBB.out]; rfl, HB2.out⟩
    · rw [decide_eq_false h2] at c2 hbb
      have HBB : Hid (bb = false) := hbb
      clear h1 h2 c3 hbb
      go_upto_region 2 with fail
      rw [← HW2.out]
      go_wp2
      go_ret
      exact ⟨by rw [HBB.out]; rfl, HB2.out⟩
  · rw [decide_eq_false h1] at c1 hbb
    have HBB : Hid (bb = false) := hbb
    clear h1 c2 c3 hbb
    go_upto_region 2 with fail
    rw [← HW2.out]
    go_wp2
    go_ret
    exact ⟨by rw [HBB.out]; rfl, HB2.out⟩
end Go.Proofs.YtpkgkeclkbidiaaDoor.RdOd
namespace Go.Proofs.YtpkgkeclkbidiaaDoor.RdAl
open Go.RowKit Go.Lib RwO SetP IntO TyM TyP TyB ShM ShP ShB LxP LxJ RdM Aft RcO RcT RcZ RdOd RdX

def al1 : List UInt8 := [114, 49, 32, 116, 48, 32, 61, 32, 97, 100, 100, 32, 114, 48, 32, 114, 48, 10, 114, 101, 116, 117, 114, 110, 32, 114, 49, 10]
def al2 : List UInt8 := [114, 50, 32, 116, 48, 32, 61, 32, 97, 100, 100, 32, 114, 48, 32, 114, 48, 10, 114, 101, 116, 117, 114, 110, 32, 114, 49, 10]
def al3 : List UInt8 := [114, 49, 32, 116, 48, 32, 61, 32, 97, 100, 100, 32, 114, 48, 32, 114, 48, 10]
theorem facts : readO (preL ++ al1) = (0, chapP) ∧ oddB (preL ++ al2) 70 = true ∧ oddB (preL ++ al3) 70 = true := by decide +kernel
set_option maxRecDepth 100000 in
set_option maxHeartbeats 4000000 in
theorem alive_calls (w : World) (hk : LxK.Tab w) (htab : ShA.Tab w) (hto : TabO w) : Calls Tryd.prog 10 #[] w (BoolR true w) := by
  obtain ⟨q1, q2, q3⟩ := facts
  have HT1 := hid (fun wx => text_calls al1 (by decide) wx)
  have HT2 := hid (fun wx => text_calls al2 (by decide) wx)
  have HT3 := hid (fun wx => text_calls al3 (by decide) wx)
  have HR := hid (read_calls (mk (preL ++ al1)) w hk htab hto)
  unfold ReadO at HR
  rw [show readO (un (mk (preL ++ al1))) = (0, chapP) from q1] at HR
  simp only at HR
  have HO2 := hid (fun wx (h : Aft w wx) => odd_calls (mk (preL ++ al2)) 70 wx (LxK.tab_on hk h.below) (htab.on h.below) (hto.on h.below))
  rw [show oddB (un (mk (preL ++ al2))) 70 = true from q2] at HO2
  have HO3 := hid (fun wx (h : Aft w wx) => odd_calls (mk (preL ++ al3)) 70 wx (LxK.tab_on hk h.below) (htab.on h.below) (hto.on h.below))
  rw [show oddB (un (mk (preL ++ al3))) 70 = true from q3] at HO3
  have HS := hid (fun va vb wx (ha : PrAt wx va chapP) (hb : PrAt wx vb chapP) => ShRJ.sameP_calls va vb chapP chapP wx ha hb)
  rw [decide_eq_true (show chapP = chapP from rfl)] at HS
  unfold BoolR at HO2 HO3 HS
  generalize hx1 : mk (preL ++ al1) = x1 at *
  generalize hx2 : mk (preL ++ al2) = x2 at *
  generalize hx3 : mk (preL ++ al3) = x3 at *
  unfold al1 mk at HT1
  unfold al2 mk at HT2
  unfold al3 mk at HT3
  have HC := hid chap_calls
  have HW := hid (Aft.refl w)
  generalize chapP = p at *
  clear q1 q2 q3 hx1 hx2 hx3 hk htab hto
  go_enter Tryd.func10, Tryd.ntmps10
  go_wp2_with fail
  refine (HT1.out _).mono ?_
  rintro e w0 ⟨rfl, hw0⟩
  rw [hw0]
  clear hw0 w0
  go_wp2_with fail
  refine HR.out.mono ?_
  rintro e w1 ⟨v, rfl, hp, b1⟩
  obtain ⟨ta, tn, tc, fa, fn, fc, rfl⟩ := pr_agg hp
  obtain ⟨W2, hW2⟩ : ∃ W2, W2 = w1.alloc (.cells #[.slice ta tn tc, .slice fa fn fc] 25) := ⟨_, rfl⟩
  have k2 : W2.heap[w1.heap.size]? = some (.cells #[.slice ta tn tc, .slice fa fn fc] 25 (0, 0)) := by rw [hW2]; exact alloc_new _ _
  have hA2 : Aft w W2 := by rw [hW2]; exact (HW.out.go b1).alloc _
  have HP2 : Hid (PrAt W2 (.agg #[.slice ta tn tc, .slice fa fn fc]) p) := by show PrAt _ _ _; rw [hW2]; exact hp.below (ShP.alloc_below _ _)
  have x0 := later_cells k2 0 _ rfl; have x1 := later_cells k2 1 _ rfl
  have HW2 := hid hW2
  have HA2 := hid hA2
  have hd := (Aft.refl W2).drew
  have D1 := hid (fun va wx (h : Aft W2 wx) (hp : PrAt wx va p) => HS.out _ va wx (HP2.out.below h.below) hp)
  have D2 := hid (fun wx (h : Aft W2 wx) => HO2.out wx (hA2.trans h))
  have D3 := hid (fun wx (h : Aft W2 wx) => HO3.out wx (hA2.trans h))
  clear hW2 hA2 k2 b1 hp HR HT1 HS HO2 HO3 HP2
  go_upto_region 2 with fail
  rw [← HW2.out]
  go_region_held3 (fun w' => Aft W2 w')
    (first | exact (((hd.go hb1).go hb2).go hb3).go hb4 | exact ((hd.go hb1).go hb2).go hb3 | exact (hd.go hb1).go hb2 | exact hd.go hb1 | exact hd)
    (first
      | (go_at_call 17; (with_reducible refine (HC.out _).mono ?_); rintro e a1 ⟨v1, rfl, hp1, hb1⟩; have HP1 := hid hp1; obtain ⟨ta1, tn1, tc1, fa1, fn1, fc1, rfl⟩ := pr_agg hp1; clear hp1)
      | (go_at_call 13; (with_reducible refine (D1.out _ a1 (hd.go hb1) HP1.out).mono ?_); rintro e a2 ⟨rfl, hb2⟩)
      | (go_at_call 9; (with_reducible refine (HT2.out _).mono ?_); rintro e a0 ⟨rfl, hw0⟩; rw [hw0]; clear hw0 a0)
      | (go_at_call 8; (with_reducible refine (D2.out a2 ((hd.go hb1).go hb2)).mono ?_); rintro e a3 ⟨rfl, hb3⟩)
      | (go_at_call 9; (with_reducible refine (HT3.out _).mono ?_); rintro e a0 ⟨rfl, hw0⟩; rw [hw0]; clear hw0 a0)
      | (go_at_call 8; (with_reducible refine (D3.out a3 (((hd.go hb1).go hb2).go hb3)).mono ?_); rintro e a4 ⟨rfl, hb4⟩))
  have hf := HA2.out.trans ((((hd.go hb1).go hb2).go hb3).go hb4)
  clear hd hb1 hb2 hb3 hb4 D1 D2 D3 HT2 HT3 HC HW HP1
  go_wp2
  go_ret
  exact ⟨rfl, hf.below⟩
end Go.Proofs.YtpkgkeclkbidiaaDoor.RdAl
namespace Go.Proofs.YtpkgkeclkbidiaaDoor.RdIn
open Go.RowKit Go.Lib TyM ShM LxM LxP LxK LxJ LxY RdM RdN RdV RcS RcW RcZ RdOd

def intA : List UInt8 := [114, 49, 32, 116, 48, 32, 61, 32, 105, 110, 116, 32]
def intB : List UInt8 := [10, 114, 101, 116, 117, 114, 110, 32, 114, 49]
/-- the whole text -/
def intT (W : List UInt8) : List UInt8 := preL ++ (intA ++ W ++ intB)
def lines7 : List (List Word) := [[[116, 121, 112, 101], [105, 110, 116]], [[116, 121, 112, 101], [102, 110], [116, 48]], [[102, 117, 110, 99], [116, 49]], [[98, 108, 111, 99, 107]], [[114, 48], [116, 48], [61], [105, 110, 116], [53]], [[106, 117, 109, 112], [98, 49]], [[98, 108, 111, 99, 107]]]
def line8 (W : Word) : List Word := [[114, 49], [116, 48], [61], [105, 110, 116], W]
def line9 : List Word := [[114, 101, 116, 117, 114, 110], [114, 49]]
theorem run_pre : runB (preL ++ intA) = (lines7, ([[114, 49], [116, 48], [61], [105, 110, 116]], [], false)) := by decide +kernel
theorem all_int {W : Word} (hW : mayB W = true) : allW (intT W) = lines7 ++ [line8 W, line9] := by
  obtain ⟨h1, h2⟩ := mayB_iff.1 hW
  have e : intT W = (preL ++ intA) ++ W ++ intB := by unfold intT; simp only [List.append_assoc]
  unfold allW fin
  rw [e, runB_append, runB_append, run_pre, run_word W _ _ _ h2, List.nil_append]
  unfold intB
  rw [List.foldl_cons, mstep_feed k10]
  simp only
  rw [push_ne h1, run_from]
  rw [show runB [114, 101, 116, 117, 114, 110, 32, 114, 49] = (([] : List (List Word)), ([[114, 101, 116, 117, 114, 110]], [114, 49], false)) from by decide +kernel]
  simp [push, line8, line9]
theorem ln_int {W : Word} (hW : mayB W = true) (hl : W.length ≤ 100) : lnE (intT W) = 0 ∧ lnT (intT W) = lines7 ++ [line8 W, line9] := by
  have hE : lnE (intT W) = 0 := by
    refine lnE_ok ?_ fun x hx => ?_
    · unfold intT
      simp only [List.length_append]
      have h1 : preL.length ≤ 70 := by decide
      have h2 : intA.length = 12 := by decide
      have h3 : intB.length = 10 := by decide
      omega
    · rw [all_int hW] at hx
      rcases List.mem_append.1 hx with hx | hx
      · exact (by decide : ∀ x ∈ lines7, x.length ≤ 64) x hx
      · simp only [List.mem_cons, List.not_mem_nil, or_false] at hx
        rcases hx with rfl | rfl
        · simp [line8]
        · simp [line9]
  refine ⟨hE, ?_⟩
  rw [lnT_ok hE, all_int hW]
  rfl
def chapN (n : Int) : Px := ⟨[⟨1, 0, 0, []⟩, ⟨3, 0, 0, []⟩], [⟨1, [⟨[⟨1, 0, 0, 0, 5, [], []⟩], ⟨1, 0, 1, 0⟩⟩, ⟨[⟨1, 0, 0, 0, n, [], []⟩], ⟨3, 1, 0, 0⟩⟩]⟩]⟩
theorem chk_n (n : Int) : ShI.chkP (chapN n) = 0 := by kernel_rfl
theorem funcs_at (ts : List Ty) {l : Ln} (M : List Ln) {sg em : Int} (h2 : l.length = 2) (hw : w0 l = [102, 117, 110, 99]) (hm : mkN (l.getD 1 ⟨#[]⟩) 116 = (sg, em)) :
    funcsP ts (l :: M) = if em = 0 then (match blocksP M (regOf ts sg) with
      | none => none
      | some (bs, n) => preG [⟨sg, bs⟩] (funcsP ts (M.drop n))) else none := by
  rw [funcs_cons, if_pos ⟨h2, hw⟩, hm]
  unfold funcP
  by_cases he : em = 0
  · simp only [he, if_true]
    cases blocksP M (regOf ts sg) with
    | none => rfl
    | some r => rfl
  · simp only [he, if_false]
def w8 (x : ByteArray) : Ln := [mk [114, 49], mk [116, 48], mk [61], mk [105, 110, 116], x]
def w9 : Ln := [mk [114, 101, 116, 117, 114, 110], mk [114, 49]]
def tsC : List Ty := [⟨1, 0, 0, []⟩, ⟨3, 0, 0, []⟩]
theorem types_n (x : ByteArray) : typesP (mkL lines7 ++ [w8 x, w9]) = some (tsC, mkL (lines7.drop 2) ++ [w8 x, w9]) := by
  show typesP (mkW [[116, 121, 112, 101], [105, 110, 116]] :: mkW [[116, 121, 112, 101], [102, 110], [116, 48]] :: mkW [[102, 117, 110, 99], [116, 49]] :: (mkL (lines7.drop 3) ++ [w8 x, w9])) = _
  rw [types_step (t := ⟨1, 0, 0, []⟩) (by decide +kernel) (by decide +kernel), types_step (t := ⟨3, 0, 0, []⟩) (by decide +kernel) (by decide +kernel), types_off (fun l N h => by cases h; decide +kernel)]
  rfl
theorem ins_n (x : ByteArray) : insP (w8 x) 1 = if (NumP.rd (un x)).2 = 0 then some ⟨1, 0, 0, 0, (NumP.rd (un x)).1, [], []⟩ else none := by
  have h1 : insP (w8 x) 1 = restP 1 0 0 0 [x] := by kernel_rfl
  rw [h1]
  unfold restP numP
  by_cases h : (NumP.rd (un x)).2 = 0
  · simp [h, hasNB, marksO]
  · simp [h, hasNB, marksO]
theorem block_n (x : ByteArray) : blockP [w8 x, w9] 1 = if (NumP.rd (un x)).2 = 0 then some (⟨[⟨1, 0, 0, 0, (NumP.rd (un x)).1, [], []⟩], ⟨3, 1, 0, 0⟩⟩, 2) else none := by
  have h9 : blockP [w9] (1 + 1) = some (⟨[], ⟨3, 1, 0, 0⟩⟩, 1) := by decide +kernel
  have h8 : ¬ isEndB (w0 (w8 x)) = true := by
    have : isEndB (w0 (w8 x)) = false := by kernel_rfl
    rw [this]; decide
  rw [blockP, if_neg h8, ins_n]
  by_cases h : (NumP.rd (un x)).2 = 0
  · rw [if_pos h, if_pos h]
    simp only
    rw [h9]
    rfl
  · rw [if_neg h, if_neg h]
theorem block_1 (M : List Ln) : blockP (mkW [[114, 48], [116, 48], [61], [105, 110, 116], [53]] :: mkW [[106, 117, 109, 112], [98, 49]] :: M) 0 = some (⟨[⟨1, 0, 0, 0, 5, [], []⟩], ⟨1, 0, 1, 0⟩⟩, 2) := by
  have h1 : ¬ isEndB (w0 (mkW [[114, 48], [116, 48], [61], [105, 110, 116], [53]])) = true := by decide +kernel
  have h2 : insP (mkW [[114, 48], [116, 48], [61], [105, 110, 116], [53]]) 0 = some ⟨1, 0, 0, 0, 5, [], []⟩ := by decide +kernel
  have h3 : isEndB (w0 (mkW [[106, 117, 109, 112], [98, 49]])) = true := by decide +kernel
  have h4 : endP (mkW [[106, 117, 109, 112], [98, 49]]) = some ⟨1, 0, 1, 0⟩ := by decide +kernel
  rw [blockP, if_neg h1, h2]
  simp only
  rw [blockP, if_pos h3, h4]
  rfl
theorem prog_n (x : ByteArray) : programP (mkL lines7 ++ [w8 x, w9]) = if (NumP.rd (un x)).2 = 0 then some (chapN (NumP.rd (un x)).1) else none := by
  unfold programP
  rw [types_n]
  simp only
  have hr : regOf tsC 1 = 0 := by decide
  have e : mkL (lines7.drop 2) ++ [w8 x, w9] = mkW [[102, 117, 110, 99], [116, 49]] :: mkW [[98, 108, 111, 99, 107]] :: mkW [[114, 48], [116, 48], [61], [105, 110, 116], [53]] :: mkW [[106, 117, 109, 112], [98, 49]] :: mkW [[98, 108, 111, 99, 107]] :: [w8 x, w9] := rfl
  rw [e, funcs_at tsC _ (sg := 1) (em := 0) (by decide) (by decide +kernel) (by decide +kernel), if_pos rfl, hr, blocks_step (by decide +kernel) (by decide) (block_1 _)]
  simp only [List.drop_succ_cons, List.drop_zero, List.length_cons, List.length_nil]
  rw [show (0 : Int) + ((0 + 1 : Nat) : Int) = 1 from rfl]
  by_cases h : (NumP.rd (un x)).2 = 0
  · rw [if_pos h, blocks_step (x := ⟨[⟨1, 0, 0, 0, (NumP.rd (un x)).1, [], []⟩], ⟨3, 1, 0, 0⟩⟩) (n := 2) (by decide +kernel) (by decide) (by rw [block_n, if_pos h])]
    simp only [List.drop_succ_cons, List.drop_zero]
    rw [blocks_nil]
    simp only [preF, Option.map_some, List.drop_succ_cons, List.drop_zero]
    simp only [List.append_nil, List.singleton_append]
    rw [funcs_nil]
    rfl
  · rw [if_neg h, blocks_cons, if_pos (by decide +kernel), if_pos (by decide), block_n, if_neg h]
    rfl
theorem read_int {W : Word} (hW : mayB W = true) (hl : W.length ≤ 100) : readO (intT W) = if (NumP.rd W).2 = 0 then (0, chapN (NumP.rd W).1) else (70, px0) := by
  obtain ⟨h1, h2⟩ := ln_int hW hl
  have e : mkL (lines7 ++ [line8 W, line9]) = mkL lines7 ++ [w8 (mk W), w9] := rfl
  have hu : un (mk W) = W := LxJ.un_mk W
  unfold readO
  rw [if_pos h1, h2, e, prog_n, hu]
  by_cases h : (NumP.rd W).2 = 0
  · rw [if_pos h, if_pos h]
    simp only
    rw [if_pos (chk_n _)]
  · rw [if_neg h, if_neg h]
theorem may_itoa (n : Int) : mayB (itoa n) = true := by
  refine mayB_iff.2 ?_
  have hd : ∀ u : Nat, decDigits u ≠ [] ∧ ∀ c ∈ decDigits u, kindB c = 0 := fun u => by
    refine ⟨fun h => by have := NumP.dec_ne u; exact this h, fun c hc => ?_⟩
    have := (NumP.isDig_iff c).1 (NumP.dec_digs u c hc)
    unfold kindB
    rw [if_neg (by omega), if_neg (by omega), if_neg (by omega)]
  by_cases h : n < 0
  · rw [NumP.itoa_ng h]
    exact ⟨by simp, fun c hc => by
      rcases List.mem_cons.1 hc with rfl | hc
      · decide
      · exact (hd _).2 c hc⟩
  · rw [NumP.itoa_nn (by omega)]
    exact hd _
end Go.Proofs.YtpkgkeclkbidiaaDoor.RdIn
namespace Go.Proofs.YtpkgkeclkbidiaaDoor.RdNW
open Go.RowKit Go.Lib RwO SetP IntO TyM TyP TyB ShM ShP ShB LxM LxP LxJ RdM RdV Aft RcP RcO RcT RcY RcZ RdFa RdNo

theorem add_mk (x y : List UInt8) (hx : x.length ≤ 100000) (hy : y.length ≤ 100000) (w : World) : (Op.stringOp .add (mk x) (mk y)).run Tryd.prog w = .ok (.string (mk (x ++ y))) w :=
  run_string_add_lists w x y (by omega) (by omega)
theorem odd_many {l : List UInt8} {e : Int} (h : lnE l = e) (he : e ≠ 0) : RdOd.oddB l e = true := by
  unfold RdOd.oddB
  rw [read_lines (by rw [h]; exact he), h]
  unfold RdOd.oddR
  simp [px0]

set_option maxRecDepth 100000 in
set_option maxHeartbeats 4000000 in
theorem walk (s : ByteArray) (_ : s.size ≤ maxLen) (w : World) (hk : LxK.Tab w) (htab : ShA.Tab w) (hto : TabO w) :
    Calls Tryd.prog 5 #[.string s] w fun e w' => e = .returned (.bool true) ∧ Below w.heap.size w w' := by
  have HAL := hid (RdAl.alive_calls w hk htab hto)
  unfold BoolR at HAL
  have HW := hid (Aft.refl w)
  by_cases h3 : 3000 < s.size
  · have h3' : (3000 : Int) < s.size := by omega
    clear h3
    go_enter Tryd.func5, Tryd.ntmps5
    go_wp2_with fail
    refine HAL.out.mono ?_
    rintro e w1 ⟨rfl, b1⟩
    go_wp2
    go_ret
    exact ⟨rfl, b1⟩
  have h3' : ¬ (3000 : Int) < s.size := by omega
  have HSZ : Hid ((un s).length ≤ 3000) := by show _ ≤ _; rw [un_len]; omega
  clear h3
  have HL := hid (fun wx (h : Aft w wx) => lines_at s wx (LxK.tab_on hk h.below))
  unfold LnA at HL
  rcases lnE_cases (un s) with hle | hle
  rotate_left
  · have HO := hid (fun wx (h : Aft w wx) => RdOd.odd_calls s 4 wx (LxK.tab_on hk h.below) (htab.on h.below) (hto.on h.below))
    rw [odd_many hle (by decide)] at HO
    unfold BoolR at HO
    rw [hle] at HL
    generalize mkL (lnT (un s)) = L at *
    clear hle hk htab hto HSZ
    go_enter Tryd.func5, Tryd.ntmps5
    go_wp2_with fail
    refine HAL.out.mono ?_
    rintro e w1 ⟨rfl, b1⟩
    have HW1 := hid (HW.out.go b1)
    clear b1 HW HAL
    go_wp2_with fail
    refine (HL.out w1 HW1.out).mono ?_
    rintro e w2 ⟨u, rfl, hli, b2⟩
    have HW2 := hid (HW1.out.go b2)
    clear b2 hli HW1 HL
    go_wp2_with fail
    refine (HO.out w2 HW2.out).mono ?_
    rintro e w3 ⟨rfl, b3⟩
    have hb := HW2.out.go b3
    go_wp2
    go_ret
    exact ⟨rfl, hb.below⟩
  have HR := hid (fun x wx (h : Aft w wx) => read_calls x wx (LxK.tab_on hk h.below) (htab.on h.below) (hto.on h.below))
  have HSM := hid (fun (h : (noisyT (lnT (un s))).length ≤ 16384) => noisy_lines hle h)
  have HNS := hid (fun k => noisy_size hle HSZ.out k)
  rw [hle] at HL
  have HLE := hid hle
  unfold ReadO at HR
  have HRS : Hid (∀ x, lnE (un x) = lnE (un s) → lnT (un x) = lnT (un s) → readO (un x) = readO (un s)) := fun x h1 h2 => read_same h1 h2
  generalize hro : readO (un s) = ro at *
  have HRO := hid hro
  obtain ⟨er, p⟩ := ro
  have e3 : (er == er) = true := by simp
  have HS := hid (fun va vb wx (ha : PrAt wx va p) (hb : PrAt wx vb p) => ShRJ.sameP_calls va vb p p wx ha hb)
  rw [decide_eq_true (show p = p from rfl)] at HS
  unfold BoolR at HS
  clear hle hk htab hto hro
  generalize lnT (un s) = l at *
  go_enter Tryd.func5, Tryd.ntmps5
  go_wp2_with fail
  refine HAL.out.mono ?_
  rintro e w1 ⟨rfl, b1⟩
  have HW1 := hid (HW.out.go b1)
  clear b1 HW HAL
  go_wp2_with fail
  refine (HL.out w1 HW1.out).mono ?_
  rintro e w2 ⟨u, rfl, hli, b2⟩
  obtain ⟨ua, uc, rfl, hul⟩ := hli.slice
  have hln : (mkL l).length = l.length := List.length_map _
  have HLI := hid hli
  have HW2 := hid (HW1.out.go b2)
  clear b2 hli HW1 HL
  rw [hln] at hul ⊢
  have HLN := hid hln
  clear hln
  have hz0 : (⟨#[35, 32, 10]⟩ : ByteArray) = mk (noisyT (l.take 0)) := rfl
  go_wp2_with fail
  rw [hz0]
  go_loopg [6, 7] l.length (fun gk nv iv wr => ∃ k : Nat, k + gk = l.length ∧ nv = .string (mk (noisyT (l.take k))) ∧ iv = .int .i64 k ∧ wr = w2)
  case atStart => exact ⟨0, by omega, rfl, rfl, rfl⟩
  case round =>
    obtain ⟨k, hk, rfl, rfl, hwr⟩ := hrel
    have HK := hid hk
    rw [hwr]
    clear hwr hz0
    by_cases hlt : k < l.length
    · obtain ⟨fb, foff, pv, rfl, hfb, c0, hst⟩ := HLI.out.at k (by rw [HLN.out]; exact hlt)
      have hgx : (mkL l)[k]'(by rw [HLN.out]; exact hlt) = mkW l[k] := List.getElem_map _
      rw [hgx] at hst
      have HNT := hid (noisyT_take hlt)
      have HNX := hid ((HNS.out k).2 l[k] (List.getElem_mem hlt))
      have HNL := hid (HNS.out k).1
      clear hk hgx
      generalize l[k] = x at *
      obtain ⟨xa, xc, rfl, hxl⟩ := hst.slice
      have hxn : (mkW x).length = x.length := List.length_map _
      have HST := hid hst
      have HXN := hid hxn
      rw [hxn] at c0 hxl
      clear hst hxn
      obtain ⟨T, hT⟩ : ∃ T, T = noisyT (l.take k) := ⟨_, rfl⟩
      rw [← hT] at HNT HNL ⊢
      clear hT
      obtain ⟨go, hgo⟩ : ∃ go : Nat, go = gk := ⟨gk, rfl⟩
      subst hgo
      go_wp2_with fail
      go_loopg [6, 8] x.length (fun gq nv qv wr => ∃ q : Nat, q + gq = x.length ∧ nv = .string (mk (T ++ noisyW (x.take q))) ∧ qv = .int .i64 q ∧ wr = w2)
      case atStart => exact ⟨0, by omega, by simp [noisyW_nil], rfl, rfl⟩
      case round =>
        obtain ⟨q, hq, rfl, rfl, hwq⟩ := hrel
        have HQ := hid hq
        rw [hwq]
        clear hwq
        have hqb := (HNX.out q).1
        by_cases hql : q < x.length
        · obtain ⟨bb, boff, hba, hbb, cc⟩ := HST.out.at q (by rw [HXN.out]; exact hql)
          subst hba
          have hgw : (mkW x)[q]'(by rw [HXN.out]; exact hql) = mk x[q] := List.getElem_map _
          rw [hgw] at cc
          have hwl := (HNX.out q).2 x[q] (List.getElem_mem hql)
          have HQT := hid (noisyW_take hql)
          have hA : (T ++ noisyW (x.take q)).length ≤ 50000 := by rw [List.length_append]; have := HNL.out; omega
          have hadd1 : ∀ wx, (Op.stringOp .add (mk (T ++ noisyW (x.take q))) ⟨#[32, 9]⟩).run Tryd.prog wx = .ok (.string (mk (T ++ noisyW (x.take q) ++ [32, 9]))) wx := fun wx => add_mk _ [32, 9] (by omega) (by simp) wx
          have hadd2 : ∀ wx, (Op.stringOp .add (mk (T ++ noisyW (x.take q) ++ [32, 9])) (mk x[q])).run Tryd.prog wx = .ok (.string (mk (T ++ noisyW (x.take q) ++ [32, 9] ++ x[q]))) wx := fun wx => add_mk _ _ (by rw [List.length_append]; show _ + 2 ≤ _; omega) (by omega) wx
          have HZZ : Hid (mk (T ++ noisyW (x.take q) ++ [32, 9] ++ x[q]) = mk (T ++ noisyW (x.take (q + 1)))) := by
            show _ = _
            rw [HQT.out]
            simp only [List.append_assoc]
          clear hq hgw hA hqb hwl HQT
          generalize mk (T ++ noisyW (x.take q) ++ [32, 9] ++ x[q]) = z3 at *
          generalize mk (T ++ noisyW (x.take q) ++ [32, 9]) = z2 at *
          generalize mk (T ++ noisyW (x.take q)) = z1 at *
          generalize mk x[q] = xw at *
          go_wp2
          go_roundg (gk - 1)
          case measure => have := HQ.out; omega
          case rel => exact ⟨q + 1, by have := HQ.out; omega, by rw [HZZ.out], by go_num, rfl⟩
        · have hxe : x.take q = x := List.take_of_length_le (by omega)
          rw [hxe] at hqb ⊢
          have hadd : ∀ wx, (Op.stringOp .add (mk (T ++ noisyW x)) ⟨#[35, 32, 114, 48, 13, 10, 10]⟩).run Tryd.prog wx = .ok (.string (mk (T ++ noisyW x ++ [35, 32, 114, 48, 13, 10, 10]))) wx := fun wx => add_mk _ [35, 32, 114, 48, 13, 10, 10] (by rw [List.length_append]; have := HNL.out; omega) (by simp) wx
          rw [← HNT.out] at hadd
          clear hq hxe hqb HNT
          generalize hz2 : mk (noisyT (l.take (k + 1))) = z2 at *
          have HZ2 := hid hz2
          clear hz2
          generalize mk (T ++ noisyW x) = z1 at *
          go_wp2
          go_roundg (go - 1)
          case measure => have := HK.out; omega
          case rel => exact ⟨k + 1, by have := HK.out; omega, by rw [HZ2.out], by go_num, rfl⟩
    · have hle : l.take k = l := List.take_of_length_le (by omega)
      rw [hle]
      have hsz : (mk (noisyT l)).size = (noisyT l).length := mk_size _
      clear hk hle
      have HX := hid (fun (h : (noisyT l).length ≤ 16384) => HRS.out (mk (noisyT l)) (by rw [LxJ.un_mk]; exact (HSM.out h).1) (by rw [LxJ.un_mk]; exact (HSM.out h).2))
      have HA2 := hid HW2.out
      by_cases h16 : 16384 < (noisyT l).length
      · have hc : (16384 : Int) < (mk (noisyT l)).size := by rw [hsz]; omega
        clear h16 hsz
        generalize mk (noisyT l) = z at *
        go_wp2
        go_ret
        exact ⟨rfl, HA2.out.below⟩
      · have hc : ¬ (16384 : Int) < (mk (noisyT l)).size := by rw [hsz]; omega
        have hx := HX.out (by omega)
        have HB := hid (fun wx (h : Aft w wx) => HR.out (mk (noisyT l)) wx h)
        have HA := hid (HR.out s w2 HA2.out)
        rw [hx] at HB
        rw [HRO.out] at HA
        simp only at HA HB
        clear h16 hsz hx HX HRO HR HRS HSM HNS
        generalize mk (noisyT l) = z at *
        go_wp2_with fail
        refine HA.out.mono ?_
        rintro e w4 ⟨v, rfl, hp, b1⟩
        obtain ⟨ta, tn, tc, fa, fn, fc, rfl⟩ := pr_agg hp
        obtain ⟨W5, hW5⟩ : ∃ W5, W5 = w4.alloc (.cells #[.slice ta tn tc, .slice fa fn fc] 25) := ⟨_, rfl⟩
        have k5 : W5.heap[w4.heap.size]? = some (.cells #[.slice ta tn tc, .slice fa fn fc] 25 (0, 0)) := by rw [hW5]; exact ShB.alloc_new _ _
        have hA5 : Aft w W5 := by rw [hW5]; exact (HA2.out.go b1).alloc _
        have HP5 : Hid (PrAt W5 (.agg #[.slice ta tn tc, .slice fa fn fc]) p) := by show PrAt _ _ _; rw [hW5]; exact hp.below (ShP.alloc_below _ _)
        have HB5 := hid (HB.out W5 hA5)
        have HA5 := hid hA5
        have HW5 := hid hW5
        obtain ⟨bb, hbb⟩ : ∃ b, b = w4.heap.size := ⟨_, rfl⟩
        rw [← hbb] at k5
        have HBB := hid hbb
        clear hW5 hA5 hp b1 hbb HA HB HW2 HA2
        go_wp2_with fail
        rw [← HW5.out]
        refine HB5.out.mono ?_
        rintro e w6 ⟨u, rfl, hp6, b6⟩
        obtain ⟨ta6, tn6, tc6, fa6, fn6, fc6, rfl⟩ := pr_agg hp6
        obtain ⟨W7, hW7⟩ : ∃ W7, W7 = w6.alloc (.cells #[.slice ta6 tn6 tc6, .slice fa6 fn6 fc6] 25) := ⟨_, rfl⟩
        have k7 : W7.heap[w6.heap.size]? = some (.cells #[.slice ta6 tn6 tc6, .slice fa6 fn6 fc6] 25 (0, 0)) := by rw [hW7]; exact ShB.alloc_new _ _
        have h57 : Aft W5 W7 := by rw [hW7]; exact (Aft.go (Aft.refl W5) b6).alloc _
        have k57 := later_heap k5 W7 h57
        have x0 := RdB.cells_of k57 0 _ rfl; have x1 := RdB.cells_of k57 1 _ rfl
        have y0 := RdB.cells_of k7 0 _ rfl; have y1 := RdB.cells_of k7 1 _ rfl
        have HP7 : Hid (PrAt W7 (.agg #[.slice ta6 tn6 tc6, .slice fa6 fn6 fc6]) p) := by show PrAt _ _ _; rw [hW7]; exact hp6.below (ShP.alloc_below _ _)
        have HS7 := hid (HS.out _ _ W7 (HP5.out.below h57.below) HP7.out)
        have HA7 := hid (HA5.out.trans h57)
        have HW7 := hid hW7
        clear hW7 k7 k57 h57 hp6 b6 HP5 HP7 HB5 HS k5 HA5
        go_upto_region 20 with fail
        rw [← HW7.out, ← HBB.out]
        clear HW7 HBB HW5
        go_wp2_with fail
        refine HS7.out.mono ?_
        rintro e w8 ⟨rfl, b8⟩
        have hb := (HA7.out.go b8).below
        go_wp2
        go_ret
        exact ⟨rfl, hb⟩
end Go.Proofs.YtpkgkeclkbidiaaDoor.RdNW
