/- What is read is of bounded size: lines of a text, and the program of them. Walk over read.Read. Walk over fescueref07.Read. Walk over fescuelaw07.ReadTells, the document's own answer being given. Walk over fescuelaw07.ReadTells. -/
import Derived.Test.YtpkgkeclkbidiaaGreatDoorZRcQToRcX
import Derived.Test.YtpkgkeclkbidiaaGreatDoorZShI
import Derived.Test.YtpkgkeclkbidiaaGreatDoorZLxKToLxL
import Derived.Test.YtpkgkeclkbidiaaGreatDoorZRdW
import Derived.Test.YtpkgkeclkbidiaaGreatDoorZLxCToLxQ
import Derived.Test.YtpkgkeclkbidiaaGreatDoorZShRMa
import Derived.Test.YtpkgkeclkbidiaaGreatDoorZShRV
namespace Go.Proofs.YtpkgkeclkbidiaaGreatDoor.RcY
open Go.RowKit Go.Lib TyM TyP ShM ShP LxM LxJ LxY RdM RdN RdV RcP
open ShI (POk chkP)

/-! numbers of an instruction, of an end -/
def OkI (y : Ix) : Prop := (0 ≤ y.op ∧ y.op ≤ 22) ∧ y.args.length ≤ 64 ∧ y.frm.length ≤ 64
def OkB (x : Bx) : Prop := (0 ≤ x.en.kind ∧ x.en.kind ≤ 255) ∧ ∀ y ∈ x.ins, OkI y
theorem rest_ok {op typ a c : Int} {m : Ln} {y : Ix} (h : restP op typ a c m = some y) : y.op = op ∧ y.args.length ≤ m.length ∧ y.frm = [] := by
 unfold restP at h
 split at h
 ·split at h
  ·cases h
  ·split at h
   ·cases h
   ·rename_i q hq
    split at h
    ·cases h
     have := marks_len hq
     rw [List.length_drop] at this
     exact ⟨rfl, by simp only; omega, rfl⟩
    ·cases h
 ·split at h
  ·cases h
  ·rename_i q hq
   split at h
   ·cases h
    have := marks_len hq
    exact ⟨rfl, by simp only; omega, rfl⟩
   ·cases h
theorem has_ok {op typ : Int} {l : Ln} {y : Ix} (h : hasP op typ l = some y) : y.op = op ∧ y.args.length ≤ l.length ∧ y.frm.length ≤ l.length := by
 unfold hasP at h
 split at h
 ·rename_i ho
  unfold phiP ix0 at h
  cases hp : pairsO l with
  | none => rw [hp] at h; cases h
  | some r =>
   rw [hp] at h
   cases h
   have := pairs_len hp
   simp
   omega
 ·split at h
  ·cases h
  ·split at h
   ·cases h
   ·obtain ⟨h1, h2, h3⟩ := rest_ok h
    rw [List.length_drop] at h2
    exact ⟨h1, by omega, by rw [h3]; simp⟩
theorem ins_ok {l : Ln} {reg : Int} {y : Ix} (hl : l.length ≤ 64) (h : insP l reg = some y) : OkI y := by
 have hop : ∀ k, 0 ≤ ((opW l k : Nat) : Int) ∧ ((opW l k : Nat) : Int) ≤ 22 := fun k => by
  have := op_le (un (l.getD k ⟨#[]⟩))
  unfold opW
  omega
 unfold insP at h
 split at h
 ·split at h
  ·obtain ⟨h1, h2, h3⟩ := has_ok h
   rw [List.length_drop] at h2 h3
   exact ⟨by rw [h1]; exact hop 3, by omega, by omega⟩
  ·cases h
 ·split at h
  ·cases h
  ·obtain ⟨h1, h2, h3⟩ := has_ok h
   rw [List.length_drop] at h2 h3
   exact ⟨by rw [h1]; exact hop 0, by omega, by omega⟩
theorem end_ok {l : Ln} {x : Ex} (h : endP l = some x) : 0 ≤ x.kind ∧ x.kind ≤ 255 := by
 unfold endP at h
 split at h
 ·split at h
  ·cases h; simp
  ·cases h
 ·split at h
  ·cases h
  ·split at h
   ·split at h
    ·cases h; simp
    ·cases h
   ·split at h
    ·split at h
     ·cases h; simp
     ·cases h
    ·cases h
theorem block_ok : ∀ {L : List Ln} {reg : Int} {x : Bx} {n : Nat}, FineL L → blockP L reg = some (x, n) → OkB x
 | [], _, _, _, _, h => by cases h
 | l :: L, reg, x, n, hf, h => by
  unfold blockP at h
  split at h
  ·cases he : endP l with
   | none => rw [he] at h; cases h
   | some e => rw [he] at h; cases h; exact ⟨end_ok he, by simp⟩
  ·split at h
   ·cases h
   ·rename_i y hy
    cases hb : blockP L (reg + 1) with
    | none => rw [hb] at h; cases h
    | some r =>
     obtain ⟨r, m⟩ := r
     rw [hb] at h; cases h
     have h1 := block_ok hf.tail hb
     refine ⟨h1.1, fun z hz => ?_⟩
     rcases List.mem_cons.1 hz with rfl | hz
     ·exact ins_ok hf.head.2.1 hy
     ·exact h1.2 z hz
theorem blocks_ok : ∀ (k : Nat) {L : List Ln} {reg : Int} {bs : List Bx} {n : Nat}, L.length ≤ k → FineL L → blocksP L reg = some (bs, n) → ∀ x ∈ bs, OkB x
 | 0, L, reg, bs, n, hk, _, h => by
  obtain rfl : L = [] := List.eq_nil_of_length_eq_zero (by omega)
  rw [blocks_nil] at h; cases h; simp
 | k + 1, [], reg, bs, n, hk, _, h => by
  rw [blocks_nil] at h; cases h; simp
 | k + 1, l :: M, reg, bs, n, hk, hf, h => by
  rw [blocks_cons] at h
  split at h
  ·split at h
   ·cases hb : blockP M reg with
    | none => rw [hb] at h; cases h
    | some r =>
     obtain ⟨b, n1⟩ := r
     rw [hb] at h
     simp only at h
     cases hc : blocksP (M.drop n1) (reg + b.ins.length) with
     | none => rw [hc] at h; cases h
     | some r =>
      obtain ⟨bs2, m⟩ := r
      rw [hc] at h
      cases h
      have h2 := blocks_ok k (by rw [List.length_drop]; simp at hk; omega) (hf.tail.drop n1) hc
      intro x hx
      rcases List.mem_cons.1 hx with rfl | hx
      ·exact block_ok hf.tail hb
      ·exact h2 x hx
   ·cases h
  ·cases h; simp
theorem manyL_le {bs : List Bx} : bs.length + manyB bs ≤ manyL bs := by
 induction bs with
 | nil => simp [manyB, manyL]
 | cons b bs ih =>
  unfold manyB manyL at *
  simp only [List.map_cons, List.sum_cons, List.length_cons]
  omega
theorem funcs_ok : ∀ (k : Nat) {ts : List Ty} {L : List Ln} {fs : List Fx}, L.length ≤ k → FineL L → funcsP ts L = some fs → fs.length ≤ L.length ∧ ∀ f ∈ fs, manyL f.blocks ≤ L.length ∧ ∀ x ∈ f.blocks, OkB x
 | 0, ts, L, fs, hk, _, h => by
  obtain rfl : L = [] := List.eq_nil_of_length_eq_zero (by omega)
  rw [funcs_nil] at h; cases h; simp
 | k + 1, ts, [], fs, hk, _, h => by
  rw [funcs_nil] at h; cases h; simp
 | k + 1, ts, l :: M, fs, hk, hf, h => by
  rw [funcs_cons] at h
  split at h
  ·split at h
   ·cases hb : funcP ts (mkN (l.getD 1 ⟨#[]⟩) 116).1 M with
    | none => rw [hb] at h; cases h
    | some r =>
     obtain ⟨f, n⟩ := r
     rw [hb] at h
     simp only at h
     cases hc : funcsP ts (M.drop n) with
     | none => rw [hc] at h; cases h
     | some gs =>
      rw [hc] at h
      cases h
      have h1 := func_len hb
      have h2 := funcs_ok k (by rw [List.length_drop]; simp at hk; omega) (hf.tail.drop n) hc
      rw [List.length_drop] at h2
      refine ⟨by simp; omega, fun g hg => ?_⟩
      rcases List.mem_cons.1 hg with rfl | hg
      ·refine ⟨by simp; omega, ?_⟩
       unfold funcP at hb
       cases hq : blocksP M (regOf ts (mkN (l.getD 1 ⟨#[]⟩) 116).1) with
       | none => rw [hq] at hb; cases hb
       | some r =>
        obtain ⟨bs, m⟩ := r
        rw [hq] at hb
        cases hb
        exact blocks_ok _ (Nat.le_refl _) hf.tail hq
      ·have := h2.2 g hg
       exact ⟨by simp; omega, this.2⟩
   ·cases h
  ·cases h
theorem types_ok : ∀ {L : List Ln} {ts : List Ty} {M : List Ln}, FineL L → typesP L = some (ts, M) → FineL M ∧ ∀ t ∈ ts, t.parts.length ≤ 64
 | [], ts, M, hf, h => by cases h; exact ⟨hf, by simp⟩
 | l :: L, ts, M, hf, h => by
  unfold typesP at h
  split at h
  ·split at h
   ·cases h
   ·rename_i t hk
    cases ht : typesP L with
    | none => rw [ht] at h; cases h
    | some r =>
     obtain ⟨a, b⟩ := r
     rw [ht] at h; cases h
     have h1 := types_ok hf.tail ht
     refine ⟨h1.1, fun x hx => ?_⟩
     rcases List.mem_cons.1 hx with rfl | hx
     ·have h2 := RcX.typ_parts hk
      have h3 := hf.head.2.1
      rw [List.length_drop] at h2
      omega
     ·exact h1.2 x hx
  ·cases h; exact ⟨hf, by simp⟩
theorem prog_ok {L : List Ln} {p : Px} (hf : FineL L) (h : programP L = some p) : Small p ∧ POk p := by
 unfold programP at h
 split at h
 ·cases h
 ·rename_i ts M ht
  cases hg : funcsP ts M with
  | none => rw [hg] at h; cases h
  | some fs =>
   rw [hg] at h
   cases h
   have h1 := types_ok hf ht
   have h2 := types_len ht
   have h3 := hf.1
   have h4 := funcs_ok _ (Nat.le_refl _) h1.1 hg
   refine ⟨⟨by simp only; omega, fun x hx => by have := h1.2 x hx; omega, by simp only; omega, fun f hx => ?_, fun f hx => ?_, fun f hx b hb y hy => ?_⟩, fun f hx b hb => ⟨((h4.2 f hx).2 b hb).1, fun y hy => ?_⟩⟩
   ·have := (h4.2 f hx).1
    have := @manyL_le f.blocks
    omega
   ·have := (h4.2 f hx).1
    have := @manyL_le f.blocks
    omega
   ·have := ((h4.2 f hx).2 b hb).2 y hy
    exact ⟨by have := this.2.1; omega, by have := this.2.2; omega⟩
   ·have := (((h4.2 f hx).2 b hb).2 y hy).1
    omega

/-! the lines of a text -/
theorem sz_word {x : List Word} {u : Word} (h : u ∈ x) : u.length + 1 ≤ szL x := by
 induction x with
 | nil => cases h
 | cons v x ih =>
  have e : szL (v :: x) = v.length + 1 + szL x := by simp [szL]
  rcases List.mem_cons.1 h with rfl | h
  ·omega
  ·have := ih h; omega
theorem sz_line {l : List (List Word)} {x : List Word} (h : x ∈ l) : szL x ≤ szT l := by
 induction l with
 | nil => cases h
 | cons v l ih =>
  have e : szT (v :: l) = szL v + szT l := by simp [szT]
  rcases List.mem_cons.1 h with rfl | h
  ·omega
  ·have := ih h; omega
theorem sz_many {l : List (List Word)} (h : ∀ x ∈ l, x ≠ []) : l.length ≤ szT l := by
 induction l with
 | nil => simp
 | cons v l ih =>
  have e : szT (v :: l) = szL v + szT l := by simp [szT]
  have h1 := ih fun x hx => h x (List.mem_cons_of_mem _ hx)
  have h2 : 1 ≤ szL v := by
   cases v with
   | nil => exact absurd rfl (h [] (List.mem_cons_self ..))
   | cons u v =>
    have := sz_word (x := u :: v) (List.mem_cons_self ..)
    omega
  simp only [List.length_cons]
  omega
theorem fine_lines {s : List UInt8} (h : lnE s = 0) : FineL (LxJ.mkL (lnT s)) := by
 obtain ⟨h1, h2⟩ := lnE_zero h
 obtain ⟨h3, h4⟩ := all_ok s
 rw [lnT_ok h]
 have h5 := szT_filter (allW s)
 have hne : ∀ x ∈ (allW s).filter full, x ≠ [] := fun x hx => full_ne (List.mem_filter.1 hx).2
 have h6 := sz_many hne
 refine ⟨?_, fun l hl => ?_⟩
 ·show ((((allW s).filter full).map fun x => x.map mk)).length ≤ _
  rw [List.length_map]
  omega
 ·obtain ⟨x, hx, rfl⟩ := List.mem_map.1 (show l ∈ (((allW s).filter full).map fun x => x.map mk) from hl)
  have h7 := List.mem_filter.1 hx
  have h8 := List.length_pos_iff.2 (hne x hx)
  refine ⟨by rw [List.length_map]; omega, by rw [List.length_map]; exact h2 x h7.1, fun y hy => ?_⟩
  obtain ⟨u, hu, rfl⟩ := List.mem_map.1 hy
  have h9 := (mayB_iff.1 (h3 x h7.1 u hu)).1
  have h10 := sz_word hu
  have h11 := sz_line (l := (allW s).filter full) hx
  refine ⟨by rw [un_mk]; exact h9, ?_⟩
  rw [← un_len, un_mk]
  omega
end Go.Proofs.YtpkgkeclkbidiaaGreatDoor.RcY
namespace Go.Proofs.YtpkgkeclkbidiaaGreatDoor.RcZ
open Go.RowKit Go.Lib TyM TyP ShM ShP ShB IntO SetP LxM LxJ LxY RwO RdM RdN RdV RdB Aft RcP RcO RcT RcW RcX RcY
open ShI (POk chkP)
open LxP (LinesAt StrsAt OwnL)

/-- a text's program, or the error -/
def px0 : Px := ⟨[], []⟩
def readO (s : List UInt8) : Int × Px :=
 if lnE s = 0 then (match programP (LxJ.mkL (lnT s)) with
  | none => (70, px0)
  | some p => if chkP p = 0 then (0, p) else (chkP p, px0)) else (lnE s, px0)
def ReadO (s : ByteArray) (w : World) (e : Ending) (w' : World) : Prop := ∃ v, e = .returned (.tuple #[v, .int .i64 (readO (un s)).1]) ∧ PrAt w' v (readO (un s)).2 ∧ Below w.heap.size w w'
theorem pr_zero (w : World) : PrAt w (.agg #[.slice none 0 0, .slice none 0 0]) px0 := ⟨_, _, rfl, ⟨none, 0, rfl, by simp [px0], (fun h => by simp [px0] at h), (fun _ => rfl), by simp [px0]⟩, RowAt.none w⟩
theorem pr_agg {w : World} {v : Value} {q : Px} (h : PrAt w v q) : ∃ ta tn tc fa fn fc, v = .agg #[.slice ta tn tc, .slice fa fn fc] := by
 obtain ⟨vt, vf, rfl, h1, h2⟩ := h
 obtain ⟨ta, tc, rfl⟩ := h1.slice
 obtain ⟨fa, fc, rfl, _⟩ := h2.slice
 exact ⟨_, _, _, _, _, _, rfl⟩
set_option maxRecDepth 100000 in
set_option maxHeartbeats 8000000 in
theorem read_calls (s : ByteArray) (w : World) (hk : LxK.Tab w) (htab : ShA.Tab w) (hto : TabO w) : Calls Tryz.prog 4 #[.string s] w (ReadO s w) := by
 have hb0 := alloc_below w (.cells #[.slice none 0 0, .slice none 0 0] 25)
 have HL := hid (LxL.lines_calls s (w.alloc (.cells #[.slice none 0 0, .slice none 0 0] 25)) (hk.on hb0))
 have HTAB := hid (htab.on hb0)
 have HTO := hid (hto.on hb0)
 have HB0 := hid hb0
 have HN0 : Hid ((w.alloc (.cells #[.slice none 0 0, .slice none 0 0] 25)).heap[w.heap.size]? = some (.cells #[.slice none 0 0, .slice none 0 0] 25 (0, 0))) := alloc_new _ _
 have HOO : Hid (readO (un s) = if lnE (un s) = 0 then (match programP (LxJ.mkL (lnT (un s))) with
  | none => (70, px0)
  | some p => if chkP p = 0 then (0, p) else (chkP p, px0)) else (lnE (un s), px0)) := rfl
 have HPO : Hid (∀ (oo : Int × Px) e w', oo = readO (un s) → (∃ v, e = .returned (.tuple #[v, .int .i64 oo.1]) ∧ PrAt w' v oo.2 ∧ Below w.heap.size w w') → ReadO s w e w') := fun oo e w' h1 h2 => by subst h1; exact h2
 have HFL := hid (fun h => fine_lines (s := un s) h)
 unfold LxJ.LnR at HL
 generalize lnT (un s) = ll at *
 generalize hle : lnE (un s) = le at *
 clear hk htab hto hb0 hle
 obtain ⟨oo, hoo⟩ : ∃ o, o = readO (un s) := ⟨_, rfl⟩
 have HE : Hid (oo = if le = 0 then (match programP (LxJ.mkL ll) with
  | none => (70, px0)
  | some p => if chkP p = 0 then (0, p) else (chkP p, px0)) else (le, px0)) := by show _ = _; rw [hoo]; exact HOO.out
 refine Calls.mono (R := fun e w' => ∃ v, e = .returned (.tuple #[v, .int .i64 oo.1]) ∧ PrAt w' v oo.2 ∧ Below w.heap.size w w') ?_ (fun e w' h => HPO.out oo e w' hoo h)
 clear hoo HOO HPO
 go_enter Tryz.func4, Tryz.ntmps4
 go_wp2_with fail
 refine HL.out.mono ?_
 rintro e w1 ⟨u, r, rfl, hr, how, hb1⟩
 have HB1 := hid (HB0.out.trans (hb1.mono HB0.out.size))
 have HN1 := hid ((hb1.block w.heap.size (by simp)).trans HN0.out)
 have HS1 : Hid (w.heap.size < w1.heap.size) := by have := hb1.size; show _ < _; simp only [World.size_alloc] at this; omega
 have HT1 := hid (HTAB.out.on hb1)
 have HU1 := hid (HTO.out.on hb1)
 have HR := hid hr
 have HOW := hid how
 clear hr how hb1 HL HTAB HTO HN0 HB0
 by_cases h0 : le = 0
 rotate_left
 ·have hne : (le != 0) = true := by simpa using h0
  have HE2 : Hid (oo = (le, px0)) := by show _ = _; rw [HE.out, if_neg h0]
  clear HE h0 HFL HOW HR HT1 HU1
  have hn := HN1.out
  have y0 := cells_of hn 0 _ rfl; have y1 := cells_of hn 1 _ rfl
  have hz := (ShTB.cells_heap hn).2
  have z0 := hz 0; have z1 := hz 1
  obtain ⟨X5, hX5, hne5, hk5, hb5⟩ := set2_world w1 w.heap.size 25 (.slice none 0 0) (.slice none 0 0) (.slice none 0 0) (.slice none 0 0) hn
  have HX5 := hid hX5
  have HB5 := hid (hb5 w.heap.size w HB1.out (Nat.le_refl _))
  have x0 := cells_of hk5 0 _ rfl; have x1 := cells_of hk5 1 _ rfl
  clear HN1 HS1
  clear hn hz hX5 hne5 hk5 hb5
  go_wp2
  (try simp only [Exit.inBlock, Exit.then])
  rw [← HX5.out]
  refine bodyPost_ret (by simp [results, Tryz.results4, go_sem, x0, x1]; try rfl) rfl ?_
  exact ⟨_, by rw [HE2.out], by rw [HE2.out]; exact pr_zero _, HB5.out⟩
 subst h0
 have HF := hid (HFL.out rfl)
 have hru : r.length ≤ 9223372036854775807 := by
  have h1 := HF.out.1
  rw [← HR.out, List.length_map] at h1
  omega
 have hli : LinesAt w1 u (LxJ.mkL ll) := by
  rw [← HR.out]
  exact HOW.out.lines hru fun x hx => by
   have h1 := (HF.out.2 x.1 (by rw [← HR.out]; exact List.mem_map_of_mem hx)).2.1
   omega
 have HPC := hid (program_calls (LxJ.mkL ll) u w1 hli HF.out HT1.out HU1.out)
 obtain ⟨ua, uc, rfl⟩ := LxP.own_slice HOW.out.1
 clear HFL hru hli HOW HU1
 cases hp : programP (LxJ.mkL ll) with
 | none =>
  have HE2 : Hid (oo = (70, px0)) := by show _ = _; rw [HE.out, if_pos rfl, hp]
  rw [hp] at HPC
  unfold ProgO at HPC
  clear HE hp
  generalize r.length = rl at *
  go_wp2_with fail
  refine HPC.out.mono ?_
  rintro e w2 ⟨rfl, hb2⟩
  obtain ⟨X3, hX3⟩ : ∃ X, X = w2.alloc (.cells #[.slice none 0 0, .slice none 0 0] 25) := ⟨_, rfl⟩
  have hb3 : Below w2.heap.size w2 X3 := by rw [hX3]; exact alloc_below _ _
  have HX3 := hid hX3
  have HB3 := hid (HB1.out.trans ((hb2.mono (Nat.le_of_lt HS1.out)).trans (hb3.mono (by have := HS1.out; have := hb2.size; omega))))
  have HN3 := hid ((hb3.block _ (by have := HS1.out; have := hb2.size; omega)).trans ((hb2.block _ HS1.out).trans HN1.out))
  clear hb2 hb3 hX3 HPC HN1 HB1
  go_upto_region 8 with fail
  rw [← HX3.out]
  have hn := HN3.out
  have y0 := cells_of hn 0 _ rfl; have y1 := cells_of hn 1 _ rfl
  have hz := (ShTB.cells_heap hn).2
  have z0 := hz 0; have z1 := hz 1
  obtain ⟨X5, hX5, hne5, hk5, hb5⟩ := set2_world X3 w.heap.size 25 (.slice none 0 0) (.slice none 0 0) (.slice none 0 0) (.slice none 0 0) hn
  have HX5 := hid hX5
  have HB5 := hid (hb5 w.heap.size w HB3.out (Nat.le_refl _))
  have x0 := cells_of hk5 0 _ rfl; have x1 := cells_of hk5 1 _ rfl
  clear HN3 HX3
  clear hn hz hX5 hne5 hk5 hb5
  go_wp2
  (try simp only [Exit.inBlock, Exit.then])
  rw [← HX5.out]
  refine bodyPost_ret (by simp [results, Tryz.results4, go_sem, x0, x1]; try rfl) rfl ?_
  exact ⟨_, by rw [HE2.out], by rw [HE2.out]; exact pr_zero _, HB5.out⟩
 | some q =>
  have hok := prog_ok HF.out hp
  have HE2 : Hid (oo = if chkP q = 0 then (0, q) else (chkP q, px0)) := by show _ = _; rw [HE.out, if_pos rfl, hp]
  rw [hp] at HPC
  unfold ProgO at HPC
  have HOK := hid hok
  clear HE hp hok
  generalize r.length = rl at *
  go_wp2_with fail
  refine HPC.out.mono ?_
  rintro e w2 ⟨v, rfl, hpn, hb2⟩
  have hpr : PrAt w2 v q := hpn w2 fun _ _ _ => rfl
  obtain ⟨ta, tn, tc, fa, fk, fc, rfl⟩ := pr_agg hpr
  obtain ⟨X3, hX3⟩ : ∃ X, X = w2.alloc (.cells #[.slice ta tn tc, .slice fa fk fc] 25) := ⟨_, rfl⟩
  have hb3 : Below w2.heap.size w2 X3 := by rw [hX3]; exact alloc_below _ _
  have HX3 := hid hX3
  have HQ3 : Hid (X3.heap[w2.heap.size]? = some (.cells #[.slice ta tn tc, .slice fa fk fc] 25 (0, 0))) := by show _ = _; rw [hX3]; exact alloc_new _ _
  have HPN := hid hpn
  have HB23 := hid hb3
  have HC := hid (ShI.check_calls q _ X3 (hpr.below hb3) ((HT1.out.on hb2).on hb3) HOK.out.1 HOK.out.2)
  have HSZ : Hid (w2.heap.size < X3.heap.size) := by show _ < _; rw [hX3]; simp
  have HB3 := hid (HB1.out.trans ((hb2.mono (Nat.le_of_lt HS1.out)).trans (hb3.mono (by have := HS1.out; have := hb2.size; omega))))
  have HN3 := hid ((hb3.block _ (by have := HS1.out; have := hb2.size; omega)).trans ((hb2.block _ HS1.out).trans HN1.out))
  have HS3 : Hid (w.heap.size < w2.heap.size) := by have := hb2.size; have := HS1.out; show _ < _; omega
  have f0 := cells_of HQ3.out 0 _ rfl
  have f1 := cells_of HQ3.out 1 _ rfl
  rw [hX3] at f0 f1
  clear hb2 hb3 hX3 HPC HN1 HB1 hpr hpn HT1
  go_wp2_with fail
  rw [← HX3.out]
  clear HX3 f0 f1
  refine HC.out.mono ?_
  rintro e w4 ⟨rfl, hb4⟩
  have HB4 := hid (HB3.out.trans (hb4.mono (by have := HS3.out; have := HSZ.out; omega)))
  have HN4 := hid ((hb4.block _ (by have := HS3.out; have := HSZ.out; omega)).trans HN3.out)
  have HQ4 := hid ((hb4.block _ HSZ.out).trans HQ3.out)
  have HB34 := hid hb4
  clear hb4 HC HB3 HN3 HQ3
  generalize chkP q = ce at *
  by_cases hc : ce = 0
  ·subst hc
   rw [if_pos rfl] at HE2
   have f0 := cells_of HQ4.out 0 _ rfl
   have f1 := cells_of HQ4.out 1 _ rfl
   have hn := HN4.out
   have y0 := cells_of hn 0 _ rfl; have y1 := cells_of hn 1 _ rfl
   have hz := (ShTB.cells_heap hn).2
   have z0 := hz 0; have z1 := hz 1
   obtain ⟨X5, hX5, hne5, hk5, hb5⟩ := set2_world w4 w.heap.size 25 (.slice none 0 0) (.slice none 0 0) (.slice ta tn tc) (.slice fa fk fc) hn
   have HX5 := hid hX5
   have HB5 := hid (hb5 w.heap.size w HB4.out (Nat.le_refl _))
   have x0 := cells_of hk5 0 _ rfl; have x1 := cells_of hk5 1 _ rfl
   have HPR5 : Hid (PrAt X5 (.agg #[.slice ta tn tc, .slice fa fk fc]) q) := HPN.out X5 fun k h1 h2 => by
    have h3 := HS1.out
    have h4 := HSZ.out
    exact (hne5 k (by omega)).trans ((HB34.out.block k (by omega)).trans (HB23.out.block k h2))
   clear HN4 HQ4 HPN HB34 HB23
   clear hn hz hX5 hne5 hk5 hb5
   go_wp2
   (try simp only [Exit.inBlock, Exit.then])
   rw [← HX5.out]
   refine bodyPost_ret (by simp [results, Tryz.results4, go_sem, x0, x1]; try rfl) rfl ?_
   exact ⟨_, by rw [HE2.out], by rw [HE2.out]; exact HPR5.out, HB5.out⟩
  ·rw [if_neg hc] at HE2
   have hne : (ce != 0) = true := by simpa using hc
   have hn := HN4.out
   have y0 := cells_of hn 0 _ rfl; have y1 := cells_of hn 1 _ rfl
   have hz := (ShTB.cells_heap hn).2
   have z0 := hz 0; have z1 := hz 1
   obtain ⟨X5, hX5, hne5, hk5, hb5⟩ := set2_world w4 w.heap.size 25 (.slice none 0 0) (.slice none 0 0) (.slice none 0 0) (.slice none 0 0) hn
   have HX5 := hid hX5
   have HB5 := hid (hb5 w.heap.size w HB4.out (Nat.le_refl _))
   have x0 := cells_of hk5 0 _ rfl; have x1 := cells_of hk5 1 _ rfl
   clear HN4 HQ4 hc
   clear hn hz hX5 hne5 hk5 hb5
   go_wp2
   (try simp only [Exit.inBlock, Exit.then])
   rw [← HX5.out]
   refine bodyPost_ret (by simp [results, Tryz.results4, go_sem, x0, x1]; try rfl) rfl ?_
   exact ⟨_, by rw [HE2.out], by rw [HE2.out]; exact pr_zero _, HB5.out⟩
end Go.Proofs.YtpkgkeclkbidiaaGreatDoor.RcZ
namespace Go.Proofs.YtpkgkeclkbidiaaGreatDoor.RdR
open Go.RowKit Go.Lib TyM TyP ShM ShP ShB IntO SetP LxM LxJ LxY RwO RdM RdN RdV RdB Aft RcP RcO RcT RcW RcY RcZ RdW
open ShI (POk chkP)
open LxP (LinesAt StrsAt OwnL)

set_option maxRecDepth 100000 in
set_option maxHeartbeats 8000000 in
theorem readR_calls (s : ByteArray) (w : World) : Calls Tryz.prog 5 #[.string s] w (ReadO s w) := by
 have hb0 := alloc_below w (.cells #[.slice none 0 0, .slice none 0 0] 25)
 have HL := hid (LxQ.linesR_calls s (w.alloc (.cells #[.slice none 0 0, .slice none 0 0] 25)) )
 have HB0 := hid hb0
 have HN0 : Hid ((w.alloc (.cells #[.slice none 0 0, .slice none 0 0] 25)).heap[w.heap.size]? = some (.cells #[.slice none 0 0, .slice none 0 0] 25 (0, 0))) := alloc_new _ _
 have HOO : Hid (readO (un s) = if lnE (un s) = 0 then (match programP (LxJ.mkL (lnT (un s))) with
  | none => (70, px0)
  | some p => if chkP p = 0 then (0, p) else (chkP p, px0)) else (lnE (un s), px0)) := rfl
 have HPO : Hid (∀ (oo : Int × Px) e w', oo = readO (un s) → (∃ v, e = .returned (.tuple #[v, .int .i64 oo.1]) ∧ PrAt w' v oo.2 ∧ Below w.heap.size w w') → ReadO s w e w') := fun oo e w' h1 h2 => by subst h1; exact h2
 have HFL := hid (fun h => fine_lines (s := un s) h)
 unfold LxJ.LnR at HL
 generalize lnT (un s) = ll at *
 generalize hle : lnE (un s) = le at *
 clear hb0 hle
 obtain ⟨oo, hoo⟩ : ∃ o, o = readO (un s) := ⟨_, rfl⟩
 have HE : Hid (oo = if le = 0 then (match programP (LxJ.mkL ll) with
  | none => (70, px0)
  | some p => if chkP p = 0 then (0, p) else (chkP p, px0)) else (le, px0)) := by show _ = _; rw [hoo]; exact HOO.out
 refine Calls.mono (R := fun e w' => ∃ v, e = .returned (.tuple #[v, .int .i64 oo.1]) ∧ PrAt w' v oo.2 ∧ Below w.heap.size w w') ?_ (fun e w' h => HPO.out oo e w' hoo h)
 clear hoo HOO HPO
 go_enter Tryz.func5, Tryz.ntmps5
 go_wp2_with fail
 refine HL.out.mono ?_
 rintro e w1 ⟨u, r, rfl, hr, how, hb1⟩
 have HB1 := hid (HB0.out.trans (hb1.mono HB0.out.size))
 have HN1 := hid ((hb1.block w.heap.size (by simp)).trans HN0.out)
 have HS1 : Hid (w.heap.size < w1.heap.size) := by have := hb1.size; show _ < _; simp only [World.size_alloc] at this; omega
 have HR := hid hr
 have HOW := hid how
 clear hr how hb1 HL HN0 HB0
 by_cases h0 : le = 0
 rotate_left
 ·have hne : (le != 0) = true := by simpa using h0
  have HE2 : Hid (oo = (le, px0)) := by show _ = _; rw [HE.out, if_neg h0]
  clear HE h0 HFL HOW HR
  have hn := HN1.out
  have y0 := cells_of hn 0 _ rfl; have y1 := cells_of hn 1 _ rfl
  have hz := (ShTB.cells_heap hn).2
  have z0 := hz 0; have z1 := hz 1
  obtain ⟨X5, hX5, hne5, hk5, hb5⟩ := set2_world w1 w.heap.size 25 (.slice none 0 0) (.slice none 0 0) (.slice none 0 0) (.slice none 0 0) hn
  have HX5 := hid hX5
  have HB5 := hid (hb5 w.heap.size w HB1.out (Nat.le_refl _))
  have x0 := cells_of hk5 0 _ rfl; have x1 := cells_of hk5 1 _ rfl
  clear HN1 HS1
  clear hn hz hX5 hne5 hk5 hb5
  go_wp2
  (try simp only [Exit.inBlock, Exit.then])
  rw [← HX5.out]
  refine bodyPost_ret (by simp [results, Tryz.results5, go_sem, x0, x1]; try rfl) rfl ?_
  exact ⟨_, by rw [HE2.out], by rw [HE2.out]; exact pr_zero _, HB5.out⟩
 subst h0
 have HF := hid (HFL.out rfl)
 have hru : r.length ≤ 9223372036854775807 := by
  have h1 := HF.out.1
  rw [← HR.out, List.length_map] at h1
  omega
 have hli : LinesAt w1 u (LxJ.mkL ll) := by
  rw [← HR.out]
  exact HOW.out.lines hru fun x hx => by
   have h1 := (HF.out.2 x.1 (by rw [← HR.out]; exact List.mem_map_of_mem hx)).2.1
   omega
 have HPC := hid (RdW.programR_calls (LxJ.mkL ll) u w1 hli HF.out)
 obtain ⟨ua, uc, rfl⟩ := LxP.own_slice HOW.out.1
 clear HFL hru hli HOW
 cases hp : programP (LxJ.mkL ll) with
 | none =>
  have HE2 : Hid (oo = (70, px0)) := by show _ = _; rw [HE.out, if_pos rfl, hp]
  rw [hp] at HPC
  clear HE hp
  generalize r.length = rl at *
  go_wp2_with fail
  refine HPC.out.mono ?_
  rintro e w2 ⟨v, q, rfl, hq, hpn, hb2⟩
  obtain ⟨ta, tn, tc, fa, fk, fc, rfl⟩ := pr_agg (hpn w2 fun _ _ _ => rfl)
  clear hq hpn
  obtain ⟨X3, hX3⟩ : ∃ X, X = w2.alloc (.cells #[.slice ta tn tc, .slice fa fk fc] 25) := ⟨_, rfl⟩
  have hb3 : Below w2.heap.size w2 X3 := by rw [hX3]; exact alloc_below _ _
  have HX3 := hid hX3
  have HB3 := hid (HB1.out.trans ((hb2.mono (Nat.le_of_lt HS1.out)).trans (hb3.mono (by have := HS1.out; have := hb2.size; omega))))
  have HN3 := hid ((hb3.block _ (by have := HS1.out; have := hb2.size; omega)).trans ((hb2.block _ HS1.out).trans HN1.out))
  clear hb2 hb3 hX3 HPC HN1 HB1
  go_upto_region 6 with fail
  rw [← HX3.out]
  have hn := HN3.out
  have y0 := cells_of hn 0 _ rfl; have y1 := cells_of hn 1 _ rfl
  have hz := (ShTB.cells_heap hn).2
  have z0 := hz 0; have z1 := hz 1
  obtain ⟨X5, hX5, hne5, hk5, hb5⟩ := set2_world X3 w.heap.size 25 (.slice none 0 0) (.slice none 0 0) (.slice none 0 0) (.slice none 0 0) hn
  have HX5 := hid hX5
  have HB5 := hid (hb5 w.heap.size w HB3.out (Nat.le_refl _))
  have x0 := cells_of hk5 0 _ rfl; have x1 := cells_of hk5 1 _ rfl
  clear HN3 HX3
  clear hn hz hX5 hne5 hk5 hb5
  go_wp2
  (try simp only [Exit.inBlock, Exit.then])
  rw [← HX5.out]
  refine bodyPost_ret (by simp [results, Tryz.results5, go_sem, x0, x1]; try rfl) rfl ?_
  exact ⟨_, by rw [HE2.out], by rw [HE2.out]; exact pr_zero _, HB5.out⟩
 | some q =>
  have hok := prog_ok HF.out hp
  have HE2 : Hid (oo = if chkP q = 0 then (0, q) else (chkP q, px0)) := by show _ = _; rw [HE.out, if_pos rfl, hp]
  rw [hp] at HPC
  have HOK := hid hok
  clear HE hp hok
  generalize r.length = rl at *
  go_wp2_with fail
  refine HPC.out.mono ?_
  rintro e w2 ⟨v, q2, rfl, hq, hpn, hb2⟩
  rw [hq q rfl] at hpn
  have hpr : PrAt w2 v q := hpn w2 fun _ _ _ => rfl
  obtain ⟨ta, tn, tc, fa, fk, fc, rfl⟩ := pr_agg hpr
  obtain ⟨X3, hX3⟩ : ∃ X, X = w2.alloc (.cells #[.slice ta tn tc, .slice fa fk fc] 25) := ⟨_, rfl⟩
  have hb3 : Below w2.heap.size w2 X3 := by rw [hX3]; exact alloc_below _ _
  have HX3 := hid hX3
  have HQ3 : Hid (X3.heap[w2.heap.size]? = some (.cells #[.slice ta tn tc, .slice fa fk fc] 25 (0, 0))) := by show _ = _; rw [hX3]; exact alloc_new _ _
  have HPN := hid hpn
  have HB23 := hid hb3
  have HC := hid (ShRG.checkP_calls q _ X3 (hpr.below hb3) HOK.out.1 HOK.out.2)
  have HSZ : Hid (w2.heap.size < X3.heap.size) := by show _ < _; rw [hX3]; simp
  have HB3 := hid (HB1.out.trans ((hb2.mono (Nat.le_of_lt HS1.out)).trans (hb3.mono (by have := HS1.out; have := hb2.size; omega))))
  have HN3 := hid ((hb3.block _ (by have := HS1.out; have := hb2.size; omega)).trans ((hb2.block _ HS1.out).trans HN1.out))
  have HS3 : Hid (w.heap.size < w2.heap.size) := by have := hb2.size; have := HS1.out; show _ < _; omega
  have f0 := cells_of HQ3.out 0 _ rfl
  have f1 := cells_of HQ3.out 1 _ rfl
  rw [hX3] at f0 f1
  clear hb2 hb3 hX3 HPC HN1 HB1 hpr hpn hq
  go_wp2_with fail
  rw [← HX3.out]
  clear HX3 f0 f1
  refine HC.out.mono ?_
  rintro e w4 ⟨rfl, hb4⟩
  have HB4 := hid (HB3.out.trans (hb4.mono (by have := HS3.out; have := HSZ.out; omega)))
  have HN4 := hid ((hb4.block _ (by have := HS3.out; have := HSZ.out; omega)).trans HN3.out)
  have HQ4 := hid ((hb4.block _ HSZ.out).trans HQ3.out)
  have HB34 := hid hb4
  clear hb4 HC HB3 HN3 HQ3
  generalize chkP q = ce at *
  by_cases hc : ce = 0
  ·subst hc
   rw [if_pos rfl] at HE2
   have f0 := cells_of HQ4.out 0 _ rfl
   have f1 := cells_of HQ4.out 1 _ rfl
   have hn := HN4.out
   have y0 := cells_of hn 0 _ rfl; have y1 := cells_of hn 1 _ rfl
   have hz := (ShTB.cells_heap hn).2
   have z0 := hz 0; have z1 := hz 1
   obtain ⟨X5, hX5, hne5, hk5, hb5⟩ := set2_world w4 w.heap.size 25 (.slice none 0 0) (.slice none 0 0) (.slice ta tn tc) (.slice fa fk fc) hn
   have HX5 := hid hX5
   have HB5 := hid (hb5 w.heap.size w HB4.out (Nat.le_refl _))
   have x0 := cells_of hk5 0 _ rfl; have x1 := cells_of hk5 1 _ rfl
   have HPR5 : Hid (PrAt X5 (.agg #[.slice ta tn tc, .slice fa fk fc]) q) := HPN.out X5 fun k h1 h2 => by
    have h3 := HS1.out
    have h4 := HSZ.out
    exact (hne5 k (by omega)).trans ((HB34.out.block k (by omega)).trans (HB23.out.block k h2))
   clear HN4 HQ4 HPN HB34 HB23
   clear hn hz hX5 hne5 hk5 hb5
   go_wp2
   (try simp only [Exit.inBlock, Exit.then])
   rw [← HX5.out]
   refine bodyPost_ret (by simp [results, Tryz.results5, go_sem, x0, x1]; try rfl) rfl ?_
   exact ⟨_, by rw [HE2.out], by rw [HE2.out]; exact HPR5.out, HB5.out⟩
  ·rw [if_neg hc] at HE2
   have hne : (ce != 0) = true := by simpa using hc
   have hn := HN4.out
   have y0 := cells_of hn 0 _ rfl; have y1 := cells_of hn 1 _ rfl
   have hz := (ShTB.cells_heap hn).2
   have z0 := hz 0; have z1 := hz 1
   obtain ⟨X5, hX5, hne5, hk5, hb5⟩ := set2_world w4 w.heap.size 25 (.slice none 0 0) (.slice none 0 0) (.slice none 0 0) (.slice none 0 0) hn
   have HX5 := hid hX5
   have HB5 := hid (hb5 w.heap.size w HB4.out (Nat.le_refl _))
   have x0 := cells_of hk5 0 _ rfl; have x1 := cells_of hk5 1 _ rfl
   clear HN4 HQ4 hc
   clear hn hz hX5 hne5 hk5 hb5
   go_wp2
   (try simp only [Exit.inBlock, Exit.then])
   rw [← HX5.out]
   refine bodyPost_ret (by simp [results, Tryz.results5, go_sem, x0, x1]; try rfl) rfl ?_
   exact ⟨_, by rw [HE2.out], by rw [HE2.out]; exact pr_zero _, HB5.out⟩
end Go.Proofs.YtpkgkeclkbidiaaGreatDoor.RdR
namespace Go.Proofs.YtpkgkeclkbidiaaGreatDoor.RdTV
open Go.RowKit Go.Lib RwO SetP IntO TyM TyP ShM ShP ShB LxJ RdB Aft RcO RcT RcZ

set_option maxRecDepth 100000 in
set_option maxHeartbeats 4000000 in
theorem walk0 (s : ByteArray) (w : World) (hk : LxK.Tab w) (htab : ShA.Tab w) (hto : TabO w) (HR : ∀ wx, Calls Tryz.prog 5 #[.string s] wx (ReadO s wx)) :
  Calls Tryz.prog 3 #[.string s] w fun e w' => e = .returned (.bool true) ∧ Below w.heap.size w w' := by
 have HA := hid (read_calls s w hk htab hto)
 have HB := hid HR
 unfold ReadO at HA HB
 generalize readO (un s) = ro at *
 obtain ⟨er, p⟩ := ro
 simp only at HA HB
 have e3 : (er == er) = true := by simp
 have HS := hid (fun va vb wx (ha : PrAt wx va p) (hb : PrAt wx vb p) => ShRJ.sameP_calls va vb p p wx ha hb)
 rw [decide_eq_true (show p = p from rfl)] at HS
 clear hk htab hto HR
 have hcs : (3000 < s.size ∧ s.size ≤ 16384) ∨ ((¬ 3000 < s.size ∨ (3000 < s.size ∧ ¬ s.size ≤ 16384)) ∧ 17000 < s.size) ∨ (s.size ≤ 3000 ∧ ¬ 17000 < s.size) ∨ (3000 < s.size ∧ ¬ s.size ≤ 16384 ∧ ¬ 17000 < s.size) := by omega

 have HW := hid (Below.refl w.heap.size w)
 rcases hcs with ⟨h1, h2⟩ | ⟨h1 | ⟨h1, h2⟩, h3⟩ | ⟨h1, h2⟩ | ⟨h1, h2, h3⟩
 ·go_enter Tryz.func3, Tryz.ntmps3
  go_wp2
  go_ret
  exact ⟨rfl, HW.out⟩
 ·omega
 ·go_enter Tryz.func3, Tryz.ntmps3
  go_wp2
  go_ret
  exact ⟨rfl, HW.out⟩
 all_goals
  go_enter Tryz.func3, Tryz.ntmps3
  go_wp2_with fail
  all_goals (try (exfalso; omega))
  refine HA.out.mono ?_
  rintro e w1 ⟨v, rfl, hp, b1⟩
  obtain ⟨ta, tn, tc, fa, fn, fc, rfl⟩ := pr_agg hp
  have h1' := Aft.go (Aft.refl w) b1
  have HP := hid hp
  clear hp b1
  obtain ⟨W2, hW2⟩ : ∃ W2, W2 = w1.alloc (.cells #[.slice ta tn tc, .slice fa fn fc] 25) := ⟨_, rfl⟩
  have k2 : W2.heap[w1.heap.size]? = some (.cells #[.slice ta tn tc, .slice fa fn fc] 25 (0, 0)) := by rw [hW2]; exact alloc_new _ _
  have hA2 : Aft w W2 := by rw [hW2]; exact h1'.alloc _
  have HP2 : Hid (PrAt W2 (.agg #[.slice ta tn tc, .slice fa fn fc]) p) := by show PrAt _ _ _; rw [hW2]; exact HP.out.below (alloc_below _ _)
  have HB2 := hid (HB.out W2)
  have HW2 := hid hW2
  obtain ⟨bb, hbb⟩ : ∃ b, b = w1.heap.size := ⟨_, rfl⟩
  rw [← hbb] at k2
  have HBB := hid hbb
  clear hW2 HA HB h1' HP hbb
  go_wp2_with fail
  rw [← HW2.out]
  refine HB2.out.mono ?_
  rintro e w3 ⟨u, rfl, hp3, b3⟩
  obtain ⟨ta3, tn3, tc3, fa3, fn3, fc3, rfl⟩ := pr_agg hp3
  obtain ⟨W4, hW4⟩ : ∃ W4, W4 = w3.alloc (.cells #[.slice ta3 tn3 tc3, .slice fa3 fn3 fc3] 25) := ⟨_, rfl⟩
  have k4 : W4.heap[w3.heap.size]? = some (.cells #[.slice ta3 tn3 tc3, .slice fa3 fn3 fc3] 25 (0, 0)) := by rw [hW4]; exact alloc_new _ _
  have h24 : Aft W2 W4 := by rw [hW4]; exact (Aft.go (Aft.refl W2) b3).alloc _
  have k24 := later_heap k2 W4 h24
  have x0 := cells_of k24 0 _ rfl; have x1 := cells_of k24 1 _ rfl
  have y0 := cells_of k4 0 _ rfl; have y1 := cells_of k4 1 _ rfl
  have HP4 : Hid (PrAt W4 (.agg #[.slice ta3 tn3 tc3, .slice fa3 fn3 fc3]) p) := by show PrAt _ _ _; rw [hW4]; exact hp3.below (alloc_below _ _)
  have HS4 := hid (HS.out _ _ W4 (HP2.out.below h24.below) HP4.out)
  have HA4 := hid (hA2.trans h24)
  have HW4 := hid hW4
  clear hW4 k4 k24 h24 hp3 b3 HP2 HP4 HB2 HS k2 hA2
  go_upto_region 5 with fail
  rw [← HW4.out, ← HBB.out]
  clear HW4 HBB HW2
  go_wp2_with fail
  refine HS4.out.mono ?_
  rintro e w5 ⟨rfl, b5⟩
  have hb := (HA4.out.go b5).below
  go_wp2
  go_ret
  exact ⟨rfl, hb⟩
end Go.Proofs.YtpkgkeclkbidiaaGreatDoor.RdTV
namespace Go.Proofs.YtpkgkeclkbidiaaGreatDoor.RdTW
open Go.RowKit RcO

theorem walk (s : ByteArray) (_ : s.size ≤ maxLen) (w : World) (hk : LxK.Tab w) (htab : ShA.Tab w) (hto : TabO w) :
  Calls Tryz.prog 3 #[.string s] w fun e w' => e = .returned (.bool true) ∧ Below w.heap.size w w' :=
 RdTV.walk0 s w hk htab hto fun wx => RdR.readR_calls s wx
end Go.Proofs.YtpkgkeclkbidiaaGreatDoor.RdTW
