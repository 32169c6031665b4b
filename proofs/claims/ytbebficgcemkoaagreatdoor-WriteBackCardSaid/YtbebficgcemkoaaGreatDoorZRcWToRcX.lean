/- Walk over read.program. Walk over read.program, whole. -/
import Derived.Test.YtbebficgcemkoaaGreatDoorZRcKToRcV
import Derived.Test.YtbebficgcemkoaaGreatDoorZRgZToRgY
import Derived.Deep.Cut
namespace Go.Proofs.YtbebficgcemkoaaGreatDoor.RcW
open Go.RowKit Go.Lib TyM TyP ShM ShP ShB IntO SetP LxM LxJ LxY RwO RdM RdN RdV RdB RdK Aft RgZ RcP RcA RcB RcC RcD RcT RcO RcR RcS RcV
open TyW (Row rowVals rowVals_length)
open LxP (LinesAt StrsAt)

variable {b : Nat} {L : List Ln} {ws : Ln} {reg : Int} {tv : Value} {w : World}

def preT (ts : List Ty) (o : Option (List Ty × List Ln)) : Option (List Ty × List Ln) := o.map fun r => (ts ++ r.1, r.2)
theorem preT_nil (o : Option (List Ty × List Ln)) : preT [] o = o := by cases o <;> rfl
theorem preT_pre (ts us : List Ty) (o : Option (List Ty × List Ln)) : preT ts (preT us o) = preT (ts ++ us) o := by
  cases o with
  | none => rfl
  | some r => simp [preT]
theorem types_step {l : Ln} {M : List Ln} {t : Ty} (hl : w0 l = [116, 121, 112, 101]) (ht : kindP (l.drop 1) = some t) : typesP (l :: M) = preT [t] (typesP M) := by
  rw [typesP, if_pos hl, ht]
  rfl
theorem types_off {M : List Ln} (hl : ∀ l N, M = l :: N → w0 l ≠ [116, 121, 112, 101]) : typesP M = some ([], M) := by
  cases M with
  | nil => rfl
  | cons l N => rw [typesP, if_neg (hl l N rfl)]
def preG (fs : List Fx) (o : Option (List Fx)) : Option (List Fx) := o.map fun r => fs ++ r
theorem preG_nil (o : Option (List Fx)) : preG [] o = o := by cases o <;> rfl
theorem preG_pre (fs gs : List Fx) (o : Option (List Fx)) : preG fs (preG gs o) = preG (fs ++ gs) o := by
  cases o with
  | none => rfl
  | some r => simp [preG]
theorem funcs_step (ts : List Ty) {l : Ln} (N : List Ln) (hl : w0 l = [102, 117, 110, 99]) : funcsP ts (l :: N) = match funcC ts (l.drop 1) N with
    | none => none
    | some (f, n) => preG [f] (funcsP ts (N.drop n)) := by
  rw [funcs_cons]
  unfold funcC
  match l, hl with
  | [], hl => cases hl
  | [x], hl => simp [markC_nil]
  | [x, y], hl =>
    rw [if_pos ⟨rfl, hl⟩]
    simp only [List.drop_succ_cons, List.drop_zero, List.getD_cons_succ, List.getD_cons_zero, markC_cons]
    by_cases hy : (mkN y 116).2 = 0
    · simp only [hy, if_true]
      cases funcP ts (mkN y 116).1 N with
      | none => rfl
      | some r => rfl
    · simp only [hy, if_false]
  | x :: y :: z :: m, hl =>
    rw [if_neg (by simp)]
    simp only [List.drop_succ_cons, List.drop_zero, markC_cons]
    by_cases hy : (mkN y 116).2 = 0 <;> simp [hy]
theorem fns_more {B : Nat} {w4 w5 : World} {v0 v5 : Value} {r : List Fr} {y : Fr} (ho : OwnFns B w4 v0 r) (hy : OwnBlks B w4 y.vb y.blocks) (h5 : w5.ownsRow B 49 2 v5 (r.length + 1) (rowOf frV r ++ rowOf frV [y])) (hgr : w4.grownBy w5 v0.ownBlock) : OwnFns B w5 v5 (r ++ [y]) := by
  refine ⟨?_, fun z hz => ?_⟩
  · rw [List.length_append, rowOf_append]; exact h5
  · rcases List.mem_append.1 hz with hz | hz
    · exact (ho.2 z hz).other hgr (own_typed ho.1) (by decide) (by decide) (by decide)
    · rw [List.mem_singleton.1 hz]
      exact hy.other hgr (own_typed ho.1) (by decide) (by decide) (by decide)
theorem ownFns_other {B : Nat} {w w' : World} {v : Value} {r : List Fr} {f : TypeId} {row : Option Nat} (h : OwnFns B w v r) (hg : w.grownBy w' row) (hr : ∀ g, row = some g → ∃ cs fr, w.heap[g]? = some (.cells cs f fr)) (h1 : 3 ≠ f) (h2 : 57 ≠ f) (h3 : 54 ≠ f) (h4 : 49 ≠ f) : OwnFns B w' v r :=
  ⟨owns_other h.1 hg hr h4, fun y hy => (h.2 y hy).other hg hr h1 h2 h3⟩
theorem infoTy : (Tryz.prog.info? 77).map (fun i => (i.zero, i.size, i.bytes)) = some (some (.agg #[.int .u8 0, .int .i64 0, .int .i64 0, .slice none 0 0]), 4, 48) := by kernel_rfl
theorem zeroTy : (Value.agg #[.int .u8 0, .int .i64 0, .int .i64 0, .slice none 0 0]).cells.size = 4 := by kernel_rfl
theorem oneTy (y : Row) (ha : ∃ a n c, y.2 = .slice a n c) : ∀ u ∈ tyRow y, u.oneCell' = true := by
  obtain ⟨a, n, c, he⟩ := ha
  unfold tyRow
  rw [he]
  simp [Value.oneCell']

theorem ownsRow_up {w w2 : World} {B size n : Nat} {e : TypeId} {v : Value} {xs : List Value} (h : w.ownsRow B e size v n xs) (hk : ∀ k, B ≤ k → k < w.heap.size → w2.heap[k]? = w.heap[k]?) : w2.ownsRow B e size v n xs := by
  obtain ⟨h1, h2⟩ := h
  refine ⟨h1, ?_⟩
  rcases h2 with h2 | ⟨g, cap, cur, hv, hg, hh, r⟩
  · exact .inl h2
  · exact .inr ⟨g, cap, cur, hv, hg, (hk g hg (Array.getElem?_eq_some_iff.1 hh).1).trans hh, r⟩
theorem parts_up {B : Nat} {w w2 : World} {v : Value} {l : List Int} (h : PartsAt B w v l) (hk : ∀ k, B ≤ k → k < w.heap.size → w2.heap[k]? = w.heap[k]?) : PartsAt B w2 v l := by
  obtain ⟨⟨ao, cap, rfl, hl, hm, hz, hc⟩, h2⟩ := h
  refine ⟨⟨ao, cap, rfl, hl, fun h0 => ?_, hz, hc⟩, fun g hgg => ?_⟩
  · obtain ⟨k, off, rfl, hlt, hx⟩ := hm h0
    obtain ⟨h4, cs, fr, h3⟩ := h2 k rfl
    have he := hk k h4 hlt
    exact ⟨k, off, rfl, (Array.getElem?_eq_some_iff.1 (he.trans h3)).1, fun i hi => (World.cell?_of_block he).trans (hx i hi)⟩
  · obtain ⟨h3, cs, fr, h4⟩ := h2 g hgg
    exact ⟨h3, cs, fr, (hk g h3 (Array.getElem?_eq_some_iff.1 h4).1).trans h4⟩
theorem tyOwn_up {B : Nat} {w w2 : World} {v : Value} {r : List Row} (h : TyOwn B w v r) (hk : ∀ k, B ≤ k → k < w.heap.size → w2.heap[k]? = w.heap[k]?) : TyOwn B w2 v r := ⟨ownsRow_up h.1 hk, fun x hx => parts_up (h.2 x hx) hk⟩
theorem ownFns_up {B : Nat} {w w2 : World} {v : Value} {r : List Fr} (h : OwnFns B w v r) (hk : ∀ k, B ≤ k → k < w.heap.size → w2.heap[k]? = w.heap[k]?) : OwnFns B w2 v r :=
  ⟨ownsRow_up h.1 hk, fun y hy => ⟨ownsRow_up (h.2 y hy).1 hk, fun z hz => ⟨ownsRow_up ((h.2 y hy).2 z hz).1 hk, fun u hu => ⟨ownsRow_up (((h.2 y hy).2 z hz).2 u hu).1 hk, ownsRow_up (((h.2 y hy).2 z hz).2 u hu).2 hk⟩⟩⟩⟩
/-- a program whose blocks all lie from B on -/
def PrNew (B : Nat) (w : World) (v : Value) (q : Px) : Prop := ∀ w2 : World, (∀ k, B ≤ k → k < w.heap.size → w2.heap[k]? = w.heap[k]?) → PrAt w2 v q
/-- a program, or none: then an error -/
def ProgO (o : Option Px) (w : World) (e : Ending) (w' : World) : Prop := match o with
  | none => e = .returned (.tuple #[.agg #[.slice none 0 0, .slice none 0 0], .int .i64 70]) ∧ Below w.heap.size w w'
  | some p => ∃ v, e = .returned (.tuple #[v, .int .i64 0]) ∧ PrNew w.heap.size w' v p ∧ Below w.heap.size w w'
/-- the two results' blocks are made -/
def W2 (w : World) : World := (w.alloc (.cells #[.slice none 0 0, .slice none 0 0] 28)).alloc (.cells #[.int .i64 0] 22)
theorem W2_size (w : World) : (W2 w).heap.size = w.heap.size + 2 := by unfold W2; simp
theorem W2_res (w : World) : (W2 w).heap[w.heap.size]? = some (.cells #[.slice none 0 0, .slice none 0 0] 28 (0, 0)) := alloc_old (alloc_new _ _) _
theorem W2_err (w : World) : (W2 w).heap[w.heap.size + 1]? = some (.cells #[.int .i64 0] 22 (0, 0)) := by
  have := alloc_new (w.alloc (.cells #[.slice none 0 0, .slice none 0 0] 28)) (.cells #[.int .i64 0] 22)
  rwa [World.size_alloc] at this
theorem W2_below (w : World) : Below w.heap.size w (W2 w) := (alloc_below _ _).alloc (by simp) _
/-- the closure mends the error, and the function answers -/
theorem out_leaves {tmps : Array Value} {wr : World} {o : Option Px} (h2 : tmps[2]? = some (.pointer (some ⟨w.heap.size, 0, none⟩))) (h3 : tmps[3]? = some (.pointer (some ⟨w.heap.size + 1, 0, none⟩))) (hb : Below (W2 w).heap.size (W2 w) wr) (ho : o = none) :
    Leaves Tryz.prog Tryz.f35 tmps (ProgO o w) [{ target := .fn (.func 71) #[.pointer (some ⟨w.heap.size + 1, 0, none⟩)], args := #[] }] (.panicking CH) wr := by
  have hs := W2_size w
  have k0 := (hb.block _ (by omega)).trans (W2_res w)
  have k1 := (hb.block _ (by omega)).trans (W2_err w)
  have c0 := cells_of k0 0 _ rfl
  have c1 := cells_of k0 1 _ rfl
  have ce := cells_of k1 0 _ rfl
  have fe := (ShTB.cells_heap k1).2 0
  refine leaves_cons (f := 71) (args := #[.pointer (some ⟨w.heap.size + 1, 0, none⟩)]) (by simp) (by simp [go_sem]) ?_
  refine (catch_out ⟨w.heap.size + 1, 0, none⟩ 0 wr ce fe).mono ?_
  rintro e u' w'' ⟨rfl, rfl, rfl⟩
  have hne : (⟨w.heap.size, 0, none⟩ : Addr).block ≠ (⟨w.heap.size + 1, 0, none⟩ : Addr).block := by simp
  have e0 : (wr.setCell ⟨w.heap.size + 1, 0, none⟩ (.int .i64 70)).cell? ⟨w.heap.size, 0, none⟩ = some (.slice none 0 0) := (World.cell?_setCell_other wr _ _ _ (by simp)).trans c0
  have e1 : (wr.setCell ⟨w.heap.size + 1, 0, none⟩ (.int .i64 70)).cell? ⟨w.heap.size, 1, none⟩ = some (.slice none 0 0) := (World.cell?_setCell_other wr _ _ _ (by simp)).trans c1
  have e2 : (wr.setCell ⟨w.heap.size + 1, 0, none⟩ (.int .i64 70)).cell? ⟨w.heap.size + 1, 0, none⟩ = some (.int .i64 70) := World.cell?_setCell_same wr _ _ ce
  have hB : Below w.heap.size w (wr.setCell ⟨w.heap.size + 1, 0, none⟩ (.int .i64 70)) := ((W2_below w).trans (hb.mono (by omega))).setCell (p := ⟨w.heap.size + 1, 0, none⟩) (by simp) _
  subst ho
  simp [Leaves, settle, results, Tryz.results35, go_sem, h2, h3, e0, e1, e2]
  exact ⟨rfl, hB⟩
/-- what is left of a frame that goes out -/
def Gone (W : World) (ds : List Deferred) (p2 p3 : Value) : Exit → Act → World → Prop
  | .panic c, a, wr => c = CH ∧ Below W.heap.size W wr ∧ a.defers = ds ∧ a.tmps[2]? = some p2 ∧ a.tmps[3]? = some p3
  | _, _, _ => False
theorem Gone.put {W : World} {ds : List Deferred} {p2 p3 : Value} {c : List PanicEntry} {a : Act} {d : Nat} {v : Value} {wr : World} (h : Gone W ds p2 p3 (.panic c) (a.put (some d) v) wr) (h2 : d ≠ 2) (h3 : d ≠ 3) : Gone W ds p2 p3 (.panic c) a wr := by
  obtain ⟨g1, g2, g3, g4, g5⟩ := h
  refine ⟨g1, g2, g3, ?_, ?_⟩
  · rw [← g4]; simp [Act.put, h2]
  · rw [← g5]; simp [Act.put, h3]
end Go.Proofs.YtbebficgcemkoaaGreatDoor.RcW
namespace Go.Proofs.YtbebficgcemkoaaGreatDoor.RcX
open Go.RowKit Go.Lib TyM TyP ShM ShP ShB IntO SetP LxM LxJ LxY RwO RdM RdN RdV RdB RdK Aft RgZ RcP RcA RcB RcC RcD RcT RcO RcR RcS RcV RcW
open TyW (Row rowVals rowVals_length)
open LxP (LinesAt StrsAt)

theorem typ_parts {l : Ln} {t : Ty} (h : kindP l = some t) : t.parts.length ≤ l.length := by
  rw [← typ_kind] at h
  have h := RcQ.done_some h
  cases l with
  | nil => cases h
  | cons x l =>
    have key : ∀ (m : Ln) (r : List Int), marksO 116 m = some r → r.length = m.length := fun m r hm => marks_len hm
    unfold typC at h
    simp only at h
    split at h
    · cases h; simp
    split at h
    · split at h
      · cases h
      · cases h; simp
    split at h
    · split at h
      · cases h
      · rename_i e m hq
        cases hr : marksO 116 m with
        | none => rw [hr] at h; cases h
        | some r =>
          rw [hr] at h
          cases h
          have h1 := key _ _ hr
          have h2 : m.length ≤ l.length := by
            cases l with
            | nil => cases hq
            | cons y l =>
              rw [markC_cons] at hq
              split at hq
              · cases hq; simp
              · cases hq
          simp
          omega
    split at h
    · cases hr : marksO 116 l with
      | none => rw [hr] at h; cases h
      | some r =>
        rw [hr] at h
        cases h
        have h1 := key _ _ hr
        simp
        omega
    split at h
    · split at h
      · cases h
      · split at h
        · cases h
        · cases h; simp
    · cases h
theorem func_c_len {ts : List Ty} {ws : Ln} {L : List Ln} {f : Fx} {n : Nat} (h : funcC ts ws L = some (f, n)) : n ≤ L.length := by
  unfold funcC at h
  split at h
  · exact (func_len h).2
  · cases h
theorem fnsAt_of {B : Nat} {w : World} {v : Value} {r : List Fr} (h : OwnFns B w v r) {fs : List Fx} (he : r.map Fr.fx = fs) : FnsAt w v fs := he ▸ h.row
set_option maxRecDepth 100000 in
set_option maxHeartbeats 16000000 in
theorem program_calls (L : List Ln) (lv : Value) (w : World) (hl : LinesAt w lv L) (hf : FineL L) (htab : ShA.Tab w) (hto : TabO w) :
    Calls Tryz.prog 35 #[lv] w (ProgO (programP L) w) := by
  have hmf : ∀ (fn : Fn) (first cap : Array Value) (w : World), (Instr.makeFunc fn first cap).run Tryz.prog w = .ok (.func fn first cap) w := fun _ _ _ _ => rfl
  obtain ⟨la, lc, rfl, _⟩ := hl.slice
  have hs2 := W2_size w
  have HTAB : Hid (ShA.Tab (W2 w)) := htab.on (W2_below w)
  have HTO : Hid (TabO (W2 w)) := hto.on (W2_below w)
  have hlw : LinesAt (W2 w) (.slice la L.length lc) L := hl.below (W2_below w)
  obtain ⟨X, hX⟩ : ∃ X, X = ((w.alloc (.cells #[.slice none 0 0, .slice none 0 0] 28)).alloc (.cells #[.int .i64 0] 22)).alloc (.cells #[.slice la L.length lc, .slice none 0 0, .int .i64 0, .slice none 0 0] 114) := ⟨_, rfl⟩
  have hX2 : X = (W2 w).alloc (.cells #[.slice la L.length lc, .slice none 0 0, .int .i64 0, .slice none 0 0] 114) := hX
  have HX := hid hX
  have HR0 : Hid (Rdr (W2 w) (w.heap.size + 1 + 1) L [] 0 (.slice none 0 0) X) := by
    refine ⟨?_, by rw [hs2]; exact Nat.le_refl _, ⟨_, _, ?_, hlw, LxP.list_none _⟩, hf, fine_nil⟩
    · rw [hX2]; exact alloc_below _ _
    · rw [hX2]
      have := alloc_new (W2 w) (.cells #[.slice la L.length lc, .slice none 0 0, .int .i64 0, .slice none 0 0] 114)
      rwa [hs2] at this
  have HT0 : Hid (TyOwn (W2 w).heap.size X (.slice none 0 0) []) := ⟨World.ownsRow_nil _ _ _ _, by simp⟩
  have HLL := hid hf.1
  have HPG : Hid (∀ ts M, typesP L = some (ts, M) → programP L = (funcsP ts M).map fun fs => ⟨ts, fs⟩) := fun ts M h => by unfold programP; rw [h]
  have HPN : Hid (typesP L = none → programP L = none) := fun h => by unfold programP; rw [h]
  have HP0 : Hid (typesP L = preT (([] : List Row).map Prod.fst) (typesP (L.drop 0))) := by show _ = _; rw [List.map_nil, preT_nil, List.drop_zero]
  generalize programP L = oo at *
  generalize htp : typesP L = tp at *
  clear hl hf htab hto hlw hX hX2 htp
  have HS2 := hid hs2
  clear hs2
  go_enter_defers Tryz.func35, Tryz.ntmps35
  go_wp2_with fail
  rw [← HX.out]
  clear HX
  go_loopg [] (L.length + 1) (fun gk wr => ∃ (k : Nat) (ws : Ln) (tv : Value) (r : List Row), k + gk = L.length + 1 ∧ k ≤ L.length ∧ r.length ≤ k ∧ tp = preT (r.map Prod.fst) (typesP (L.drop k)) ∧ Rdr (W2 w) (w.heap.size + 1 + 1) (L.drop k) ws 0 tv wr ∧ TyOwn (W2 w).heap.size wr tv r ∧ ∀ x ∈ r, x.1.parts.length ≤ 20000)
  case atStart => exact ⟨0, [], _, [], by omega, by omega, by simp, HP0.out, by rw [List.drop_zero]; exact HR0.out, HT0.out, by simp⟩
  case round =>
    obtain ⟨k, ws, tv, r, hk, hkl, hrl, hp, hr, ht, hpp⟩ := hrel
    have HK := hid hk
    have HKL := hid hkl
    have HRL := hid hrl
    have HP := hid hp
    have HT := hid ht
    have HPP := hid hpp
    clear hk hkl hrl hp ht hpp HR0 HT0 HP0
    by_cases he : ∃ l M, L.drop k = l :: M ∧ w0 l = [116, 121, 112, 101]
    · obtain ⟨l, M, hd, hw⟩ := he
      rw [hd] at hr
      have HC := hid (begins_on ⟨#[116, 121, 112, 101]⟩ hr hw)
      unfold Goes at HC
      have HR := hid hr
      have HD0 := hid hd
      have HW0 := hid hw
      have HF1 := hid hr.fl.head.2.1
      clear hr hd hw
      go_wp2_with fail
      refine HC.out.mono ?_
      rintro e w1 ⟨rfl, hr1, hk1⟩
      have HR1 := hid hr1
      have HT1 := hid (HT.out.go HR.out hk1)
      obtain ⟨ta, tc, htv⟩ := own_form HT1.out.1
      subst htv
      clear hr1 hk1 HC HR HT
      have HDR := hid HR1.out.draw
      have HDT := hid (HT1.out.on ((Below.refl _ w1).drew))
      have HV0 : Hid (w1.drew.cell? ⟨w.heap.size + 1 + 1, 3, none⟩ = some (.slice ta r.length tc)) := by
        obtain ⟨_, _, _, _, _, _, _, c3, _⟩ := HDR.out.facts
        exact c3
      cases hty : typC (l.drop 1) with
      | none =>
        have HC := hid (typ_no HDR.out hty)
        unfold Out at HC
        have HN : Hid (oo = none) := HPN.out (by rw [HP.out, HD0.out, typesP, if_pos HW0.out, ← typ_kind, hty]; rfl)
        clear hty
        go_upto_region 4 with fail
        refine Code.wp_mono (Q := Gone (W2 w) [{ target := .fn (.func 71) #[.pointer (some ⟨w.heap.size + 1, 0, none⟩)], args := #[] }] (.pointer (some ⟨w.heap.size, 0, none⟩)) (.pointer (some ⟨w.heap.size + 1, 0, none⟩))) (fun e a wr hg => ?_) ?_
        · cases e with
          | panic c =>
            obtain ⟨rfl, g2, g3, g4, g5⟩ := hg
            show Leaves _ _ _ _ _ _ _
            rw [g3]
            exact out_leaves g4 g5 g2 HN.out
          | _ => exact hg.elim
        refine wp_region_Z (S := (fun w' => w'.cell? ⟨w.heap.size + 1 + 1, 3, none⟩ = some (.slice ta r.length tc))) (Z := [6]) (by kernel_rfl) ?_ (fun hHeld => ?_)
        · (try dsimp only)
          exact HV0.out
        refine wpAnyZ_takeP (i := 0) (oi := ⟨_, _, _, _, _, _⟩) (v := ?_) rfl (by kernel_rfl) (by kernel_rfl) (by kernel_rfl) (by kernel_rfl) (fun _ _ _ h => h.put (by decide) (by decide)) (Or.inl ⟨by rfl, ?_⟩) (fun _ => by assumption) ?_
        rotate_left
        · intro w hSw; (try dsimp only at hSw); go_simp; all_goals (try with_reducible rfl)
        try simp only [Act.put, List.setIfInBounds_toArray, List.set_cons_zero, List.set_cons_succ]
        refine wpAnyZ_take (i := 1) (oi := ⟨_, _, _, _, _, _⟩) (v := ?_) rfl (by kernel_rfl) (by kernel_rfl) (by kernel_rfl) (by kernel_rfl) (by kernel_rfl) (fun _ _ _ h => h.put (by decide) (by decide)) (Or.inl ⟨by rfl, ?_⟩) (by assumption) ?_
        rotate_left
        · intro w hSw; (try dsimp only at hSw); go_simp; all_goals (try with_reducible rfl)
        refine zC 2 rfl (fun K hK => ?_)
        go_simp
        (go_at_call 73)
        refine HC.out.mono ?_
        rintro e w9 ⟨rfl, hk⟩
        have hb := HDR.out.old hk
        exact ⟨rfl, hb, rfl, rfl, rfl⟩
      | some tm =>
        obtain ⟨t, m⟩ := tm
        have HC := hid (typ_yes HDR.out hty)
        unfold TypO at HC
        have HTY := hid hty
        clear hty
        go_upto_region 4 with fail
        refine wp_region_noPanic ?_
        refine wp_region_Z (S := (fun w' => w'.cell? ⟨w.heap.size + 1 + 1, 3, none⟩ = some (.slice ta r.length tc))) (Z := [6]) (by kernel_rfl) ?_ (fun hHeld => ?_)
        · (try dsimp only)
          exact HV0.out
        refine zP 0 rfl ?_
        refine zT 1 rfl ?_
        refine zC 2 rfl (fun K hK => ?_)
        go_simp
        (go_at_call 73; (with_reducible refine HC.out.mono ?_); rintro e w2 ⟨pv, rfl, hpa, hr2, hk2⟩; obtain ⟨ja, jn, jc, rfl⟩ : ∃ a n c, pv = .slice a n c := (by obtain ⟨a, c, h, _⟩ := hpa.1; exact ⟨_, _, _, h⟩); have HPA := hid (hpa.base (C := (W2 w).heap.size) HDR.out.be.size); have HR2 := hid hr2; have HT2 := hid (HDT.out.go HDR.out hk2); have HV1 : Hid (w2.cell? ⟨w.heap.size + 1 + 1, 3, none⟩ = some (.slice ta r.length tc)) := (by obtain ⟨_, _, _, _, _, _, _, c3, _⟩ := HR2.out.facts; exact c3); clear hpa hr2 hk2 HC)
        refine hK.out _ _ ?_ (fun hHeld => ?_)
        · (try dsimp only)
          exact HV1.out
        clear hK K
        refine zC 3 rfl (fun K hK => ?_)
        go_simp
        refine hK.out _ _ ?_ (fun hHeld => ?_)
        · (try dsimp only)
          exact keep_below (alloc_below _ _) HV1.out
        clear hK K
        refine zC 4 rfl (fun K hK => ?_)
        rw [if_pos (by rfl)]
        have hb5 := alloc_below w2 (.cells #[.int .u8 t.kind, .int .i64 t.elem, .int .i64 t.many, .slice ja jn jc] 77)
        have HR3 := hid (HR2.out.on hb5)
        have HT3 := hid (HT2.out.on hb5)
        have HPA3 := hid (HPA.out.below hb5)
        have hsz : (W2 w).heap.size ≤ (w2.alloc (.cells #[.int .u8 t.kind, .int .i64 t.elem, .int .i64 t.many, .slice ja jn jc] 77)).heap.size := HR3.out.be.size
        refine wp_append_row tyW (by decide) infoTy Tryz.underlying25 zeroTy (.tmp 12) (.tmp 14) rfl (W2 w).heap.size (.slice ta r.length tc) rfl r.length (rowOf tyRow r) HT3.out.1 w2.heap.size 0 1 1 [((t, .slice ja jn jc) : Row)] rfl rfl (fun z hz => by rw [List.mem_singleton.1 hz]; exact oneTy _ ⟨_, _, _, rfl⟩) (row_new _ _ _ _ tyRow rfl) (by have := HRL.out; have := HKL.out; have := HLL.out; unfold maxLen; simp; omega) (by have := HRL.out; have := HKL.out; have := HLL.out; simp; omega) hsz ?_
        intro v6 w6 hown6 hgr6
        have HT6 := hid (HT3.out.grow (y := ((t, .slice ja jn jc) : Row)) HPA3.out hown6 hgr6)
        have HR6 := hid (Rdr_grown HR3.out HT3.out.1 (Nat.le_refl _) (by decide) hgr6)
        have HV2 : Hid (w6.cell? ⟨w.heap.size + 1 + 1, 3, none⟩ = some (.slice ta r.length tc)) := by
          obtain ⟨_, _, _, _, _, _, _, c3, _⟩ := HR6.out.facts
          exact c3
        obtain ⟨p5, c5, h50⟩ := own_form hown6
        subst h50
        clear hown6 hgr6 hsz hb5
        refine hK.out _ _ ?_ (fun hHeld => ?_)
        · (try dsimp only)
          exact HV2.out
        clear hK K
        refine zP 5 rfl ?_
        refine zL 6 rfl (fun K hK => ?_)
        obtain ⟨_, _, _, _, _, _, _, _, hfz6, _⟩ := HR6.out.facts
        have zz := hfz6 3
        have yy := HV2.out
        clear hfz6
        go_simp
        refine hK.out _ _ ?_
        clear hK K
        refine wpAnyZ_done (by kernel_rfl) ?_ _
        refine NoPanic.normal ?_
        obtain ⟨X7, hX7⟩ : ∃ X, X = w6.setCell ⟨w.heap.size + 1 + 1, 3, none⟩ (.slice p5 (r.length + 1) c5) := ⟨_, rfl⟩
        have hr7 : Rdr (W2 w) (w.heap.size + 1 + 1) M m 0 (.slice p5 (r.length + 1) c5) X7 := by rw [hX7]; exact HR6.out.types _
        have ht7 : TyOwn (W2 w).heap.size X7 (.slice p5 (r.length + 1) c5) (r ++ [((t, .slice ja jn jc) : Row)]) := by
          rw [hX7]
          obtain ⟨lv2, wv2, hcs, _⟩ := HR6.out.cs
          exact HT6.out.other (ShTB.grown_set w6 (w.heap.size + 1 + 1) 3 _) (ShTB.typed_at hcs) (by decide) (by decide)
        have HX7 := hid hX7
        have HR7 := hid hr7
        have HT7 := hid ht7
        clear hr7 ht7 hX7 HV0 HV1 HV2 HT6 HR6 HT3 HR3 HPA HPA3 HT2 HR2 HDT HDR HT1 HR1
        cases hm : m with
        | cons z zs =>
          have HNE := hid (show m ≠ [] by rw [hm]; simp)
          have HN : Hid (oo = none) := HPN.out (by rw [HP.out, HD0.out, typesP, if_pos HW0.out, ← typ_kind, HTY.out, hm]; rfl)
          clear hm
          go_wp2_with fail
          rw [← HX7.out]
          refine (over_no HR7.out HNE.out).mono ?_
          rintro e w8 ⟨rfl, hk8⟩
          have hb := HR7.out.old hk8
          go_wp2
          exact out_leaves rfl rfl hb HN.out
        | nil =>
          have hkd : kindP (l.drop 1) = some t := by rw [← typ_kind, HTY.out, hm]; rfl
          have hr7 := HR7.out
          rw [hm] at hr7
          have HR8 := hid hr7
          have HPX : Hid (tp = preT ((r ++ [((t, .slice ja jn jc) : Row)]).map Prod.fst) (typesP M)) := by
            show _ = _
            rw [HP.out, HD0.out, types_step HW0.out hkd, preT_pre, List.map_append]
            rfl
          have HPL : Hid (t.parts.length ≤ 20000) := by
            have h1 := HF1.out
            have h2 := typ_parts hkd
            show _ ≤ _
            rw [List.length_drop] at h2
            omega
          have HDM : Hid (L.drop (k + 1) = M) := by
            show List.drop _ _ = _
            have := List.drop_drop (i := 1) (j := k) (l := L)
            rw [HD0.out] at this
            simpa [Nat.add_comm] using this.symm
          have HLT : Hid (k < L.length) := by
            show _ < _
            have := congrArg List.length HD0.out
            rw [List.length_drop] at this
            simp at this
            omega
          clear hm hkd hr7 HR7
          go_wp2_with fail
          rw [← HX7.out]
          refine (over_yes HR8.out).mono ?_
          rintro e w8 ⟨rfl, hr8, hk8⟩
          have HR9 := hid hr8
          have HT9 := hid (HT7.out.go HR8.out hk8)
          clear hr8 hk8 HR8 HT7 HX7
          go_wp2
          go_roundg (gk - 1)
          case measure => have := HK.out; have := HLT.out; omega
          case rel => exact ⟨k + 1, [], _, r ++ [((t, .slice ja jn jc) : Row)], by have := HK.out; have := HLT.out; omega, by have := HLT.out; omega, by have := HRL.out; simp; omega, by rw [HDM.out]; exact HPX.out, by rw [HDM.out]; exact HR9.out, HT9.out, fun x hx => by
            rcases List.mem_append.1 hx with hx | hx
            · exact HPP.out x hx
            · rw [List.mem_singleton.1 hx]; exact HPL.out⟩
    · have hw : ∀ l M, L.drop k = l :: M → w0 l ≠ un ⟨#[116, 121, 112, 101]⟩ := fun l M hd hx => he ⟨l, M, hd, hx⟩
      have HC := hid (begins_off ⟨#[116, 121, 112, 101]⟩ hr hw)
      unfold Goes at HC
      have HR := hid hr
      have htp : tp = some (r.map Prod.fst, L.drop k) := by
        rw [HP.out, types_off hw]
        simp [preT]
      have HPR := hid (HPG.out _ _ htp)
      clear hr hw he htp HPG HPN HP
      obtain ⟨M, hM⟩ : ∃ M, M = L.drop k := ⟨_, rfl⟩
      rw [← hM] at HC HR HPR
      have HML : Hid (M.length ≤ 20000) := by
        have h1 := HLL.out
        show _ ≤ _
        rw [hM, List.length_drop]
        omega
      clear hM
      go_wp2_with fail
      refine HC.out.mono ?_
      rintro e w1 ⟨rfl, hr1, hk1⟩
      have HR1 := hid hr1
      have HT1 := hid (HT.out.go HR.out hk1)
      have HF0 : Hid (funcsP (r.map Prod.fst) M = preG (([] : List Fr).map Fr.fx) (funcsP (r.map Prod.fst) (M.drop 0))) := by show _ = _; rw [List.map_nil, preG_nil, List.drop_zero]
      have HO0 : Hid (OwnFns (W2 w).heap.size w1 (.slice none 0 0) []) := ⟨World.ownsRow_nil _ _ _ _, by simp⟩
      clear hr1 hk1 HC HR HT
      go_wp2_with fail
      go_loopg [5] (M.length + 1) (fun gf fv wr => ∃ (j : Nat) (ws : Ln) (rg : Int) (fs : List Fr), j + gf = M.length + 1 ∧ j ≤ M.length ∧ fs.length ≤ j ∧ funcsP (r.map Prod.fst) M = preG (fs.map Fr.fx) (funcsP (r.map Prod.fst) (M.drop j)) ∧ Rdr (W2 w) (w.heap.size + 1 + 1) (M.drop j) ws rg tv wr ∧ TyOwn (W2 w).heap.size wr tv r ∧ OwnFns (W2 w).heap.size wr fv fs)
      case atStart => exact ⟨0, _, _, [], by omega, by omega, by simp, HF0.out, by rw [List.drop_zero]; exact HR1.out, HT1.out, HO0.out⟩
      case round =>
        obtain ⟨j, ws2, rg, fs, hj, hjl, hfl, hff, hr2, ht2, ho2⟩ := hrel
        have HJ := hid hj
        have HJL := hid hjl
        have HFL := hid hfl
        have HFF := hid hff
        have HT2 := hid ht2
        have HO2 := hid ho2
        clear hj hjl hfl hff ht2 ho2 HR1 HT1 HF0 HO0
        by_cases he : ∃ l N, M.drop j = l :: N ∧ w0 l = [102, 117, 110, 99]
        rotate_left
        · have hw : ∀ l N, M.drop j = l :: N → w0 l ≠ un ⟨#[102, 117, 110, 99]⟩ := fun l N hd hx => he ⟨l, N, hd, hx⟩
          have HC := hid (begins_off ⟨#[102, 117, 110, 99]⟩ hr2 hw)
          unfold Goes at HC
          have HR2 := hid hr2
          have HW := hid hw
          clear hr2 hw he
          obtain ⟨fa, fc, hfv⟩ := own_form HO2.out.1
          subst hfv
          go_wp2_with fail
          refine HC.out.mono ?_
          rintro e w3 ⟨rfl, hr3, hk3⟩
          have HR3 := hid hr3
          have HT3 := hid (HT2.out.go HR2.out hk3)
          have HO3 := hid (ownFns_other HO2.out hk3.grown (Rdr_typed HR2.out) (by decide) (by decide) (by decide) (by decide))
          clear hr3 hk3 HC HR2 HT2 HO2
          obtain ⟨xa, xc, wa, wc, c0, c1, c2, c3, hfz, _⟩ := HR3.out.facts
          clear c1 c2 hfz
          cases hd : M.drop j with
          | cons l N =>
            have HN : Hid (oo = none) := by
              show _ = _
              rw [HPR.out, HFF.out, hd, funcs_cons, if_neg (fun h => HW.out l N hd h.2)]
              rfl
            have hb := HR3.out.be
            rw [hd] at c0
            have hne : (((l :: N).length : Int) == 0) = false := by simp; omega
            clear hd
            generalize (l :: N).length = nn at *
            go_wp2_with fail
            refine (must_no w3).mono ?_
            rintro e w4 ⟨rfl, rfl⟩
            go_wp2
            exact out_leaves rfl rfl hb HN.out
          | nil =>
            rw [hd] at c0
            have HY : Hid (oo = some ⟨r.map Prod.fst, fs.map Fr.fx⟩) := by
              show _ = _
              rw [HPR.out, HFF.out, hd, funcs_nil]
              simp [preG]
            clear hd
            obtain ⟨ta, tc, htv⟩ := own_form HT3.out.1
            subst htv
            have hb := HR3.out.be
            have hs2 := HS2.out
            have k0 := (hb.block w.heap.size (by omega)).trans (W2_res w)
            have k1 := (hb.block (w.heap.size + 1) (by omega)).trans (W2_err w)
            have y0 := cells_of k0 0 _ rfl; have y1 := cells_of k0 1 _ rfl; have ye := cells_of k1 0 _ rfl
            have hz := (ShTB.cells_heap k0).2
            have z0 := hz 0; have z1 := hz 1
            have ze := (ShTB.cells_heap k1).2 0
            obtain ⟨X5, hX5, hne5, hk5, hb5⟩ := set2_world w3 w.heap.size 28 (.slice none 0 0) (.slice none 0 0) (.slice ta r.length tc) (.slice fa fs.length fc) k0
            have hk51 := (hne5 (w.heap.size + 1) (by omega)).trans k1
            have hone5 := kept_one hne5 (hb5 0 w3 (Below.refl _ _) (Nat.zero_le _))
            have ht5 := HT3.out.other hone5.grown (ShTB.typed_at k0) (by decide) (by decide)
            have ho5 := ownFns_other HO3.out hone5.grown (ShTB.typed_at k0) (by decide) (by decide) (by decide) (by decide)
            have hg6 := ShTB.grown_set X5 (w.heap.size + 1) 0 (.int .i64 0)
            have ht6 := ht5.other hg6 (ShTB.typed_at hk51) (by decide) (by decide)
            have ho6 := ownFns_other ho5 hg6 (ShTB.typed_at hk51) (by decide) (by decide) (by decide) (by decide)
            have hB5 := hb5 w.heap.size w ((W2_below w).trans (hb.mono (by omega))) (Nat.le_refl _)
            obtain ⟨X6, hX6⟩ : ∃ X, X = X5.setCell ⟨w.heap.size + 1, 0, none⟩ (.int .i64 0) := ⟨_, rfl⟩
            have hB6 : Below w.heap.size w X6 := by rw [hX6]; exact hB5.setCell (p := ⟨w.heap.size + 1, 0, none⟩) (by simp) _
            rw [← hX6] at ht6 ho6 hg6
            have e0 := cells_of ((hg6.block w.heap.size (Array.getElem?_eq_some_iff.1 hk5).1 (by simp)).trans hk5) 0 _ rfl
            have e1 := cells_of ((hg6.block w.heap.size (Array.getElem?_eq_some_iff.1 hk5).1 (by simp)).trans hk5) 1 _ rfl
            have e2 : X6.cell? ⟨w.heap.size + 1, 0, none⟩ = some (.int .i64 0) := by rw [hX6]; exact World.cell?_setCell_same _ _ _ (cells_of hk51 0 _ rfl)
            have HX5 := hid (hX6.trans (by rw [hX5]))
            have HPR9 : Hid (PrNew w.heap.size X6 (.agg #[.slice ta r.length tc, .slice fa fs.length fc]) ⟨r.map Prod.fst, fs.map Fr.fx⟩) := fun w2 hk2 => ⟨_, _, rfl, (tyOwn_up ht6 (fun k h1 h2 => hk2 k (by omega) h2)).tys (by have := HRL.out; have := HKL.out; have := HLL.out; omega), fnsAt_of (ownFns_up ho6 (fun k h1 h2 => hk2 k (by omega) h2)) rfl⟩
            have HB6 := hid hB6
            clear hb hs2 k0 k1 hz hX5 hne5 hk5 hb5 hk51 hone5 ht5 ho5 hg6 ht6 ho6 hB5 hX6 hB6 HT3 HO3 HR3
            go_wp2_with fail
            refine (must_yes w3).mono ?_
            rintro e w4 ⟨rfl, rfl⟩
            go_wp2
            rw [← HX5.out]
            clear y0 y1 ye z0 z1 ze c0 c3
            refine leaves_cons (f := 71) (args := #[.pointer (some ⟨w.heap.size + 1, 0, none⟩)]) (by simp) (by simp [go_sem]) ?_
            refine (catch_idle ⟨w.heap.size + 1, 0, none⟩ X6).mono ?_
            rintro e u' w'' ⟨rfl, rfl, rfl⟩
            simp [Leaves, settle, results, Tryz.results35, go_sem, e0, e1, e2]
            rw [HY.out]
            exact ⟨_, rfl, HPR9.out, HB6.out⟩
        obtain ⟨l, N, hd, hw⟩ := he
        rw [hd] at hr2
        have HC := hid (begins_on ⟨#[102, 117, 110, 99]⟩ hr2 hw)
        unfold Goes at HC
        have HR2 := hid hr2
        have HD0 := hid hd
        have HW0 := hid hw
        have HFN := hid (show FineL N from hr2.fl.tail)
        clear hr2 hd hw
        obtain ⟨fa, fc, hfv⟩ := own_form HO2.out.1
        subst hfv
        go_wp2_with fail
        refine HC.out.mono ?_
        rintro e w3 ⟨rfl, hr3, hk3⟩
        have HR3 := hid hr3
        have HT3 := hid (HT2.out.go HR2.out hk3)
        have HO3 := hid (ownFns_other HO2.out hk3.grown (Rdr_typed HR2.out) (by decide) (by decide) (by decide) (by decide))
        clear hr3 hk3 HC HR2 HT2 HO2
        have htl : r.length ≤ 100000 := by have := HRL.out; have := HKL.out; have := HLL.out; omega
        have hfc := func_calls HR3.out HTAB.out HTO.out (fun w2 hk2 => (HT3.out.go HR3.out hk2).tys htl) (fun t ht => by
          obtain ⟨x, hx, rfl⟩ := List.mem_map.1 ht
          exact HPP.out x hx)
        have hst := funcs_step (r.map Prod.fst) N HW0.out
        have HLT : Hid (j < M.length ∧ N.length + 1 = M.length - j) := by
          have := congrArg List.length HD0.out
          rw [List.length_drop] at this
          simp only [List.length_cons] at this
          have := HJL.out
          show _ ∧ _
          omega
        clear htl
        cases hfu : funcC (r.map Prod.fst) (l.drop 1) N with
        | none =>
          rw [hfu] at hfc hst
          have HC : Hid (Calls Tryz.prog 75 _ _ (Out (w.heap.size + 1 + 1) w3)) := hfc
          unfold Out at HC
          have HN : Hid (oo = none) := by show _ = _; rw [HPR.out, HFF.out, HD0.out, hst]; rfl
          clear hfc hst hfu
          go_wp2_with fail
          refine HC.out.mono ?_
          rintro e w4 ⟨rfl, hk4⟩
          have hb := HR3.out.old hk4
          go_wp2
          exact out_leaves rfl rfl hb HN.out
        | some xn =>
          obtain ⟨x, n⟩ := xn
          have hln := func_c_len hfu
          rw [hfu] at hfc hst
          have HC : Hid (Calls Tryz.prog 75 _ _ (FuncO (W2 w) (w.heap.size + 1 + 1) N tv (some (x, n)) w3)) := hfc
          have HFX : Hid (funcsP (r.map Prod.fst) M = preG (fs.map Fr.fx ++ [x]) (funcsP (r.map Prod.fst) (M.drop (j + (1 + n))))) := by
            show _ = _
            rw [HFF.out, HD0.out, hst]
            simp only
            rw [preG_pre]
            congr 2
            have := List.drop_drop (i := 1 + n) (j := j) (l := M)
            rw [HD0.out] at this
            rw [← this, Nat.add_comm 1 n, List.drop_succ_cons]
          have HDM : Hid (M.drop (j + (1 + n)) = N.drop n) := by
            show List.drop _ _ = _
            have := List.drop_drop (i := 1 + n) (j := j) (l := M)
            rw [HD0.out] at this
            rw [← this, Nat.add_comm 1 n, List.drop_succ_cons]
          have HLN := hid hln
          clear hfc hst hfu hln
          go_wp2_with fail
          refine HC.out.mono ?_
          rintro e w4 ⟨vb, bs, rg4, ws4, rfl, hob, hbx, hr4, hk4⟩
          obtain ⟨ja, jc, rfl⟩ : ∃ a c, vb = .slice a bs.length c := own_form hob.1
          have hb5 := alloc_below w4 (.cells #[.int .i64 x.sig, .slice ja bs.length jc] 49)
          have HR5 := hid (hr4.on hb5)
          have HT5 := hid ((HT3.out.go HR3.out hk4).on hb5)
          have ho4 := ownFns_other HO3.out hk4.grown (Rdr_typed HR3.out) (by decide) (by decide) (by decide) (by decide)
          have HO5 := hid (show OwnFns (W2 w).heap.size (w4.alloc (.cells #[.int .i64 x.sig, .slice ja bs.length jc] 49)) _ fs from ho4.below hb5)
          have HB5 := hid ((show OwnBlks (W2 w).heap.size w4 _ bs from hob.base HR3.out.be.size).below hb5)
          have HBX := hid hbx
          have hsz : (W2 w).heap.size ≤ (w4.alloc (.cells #[.int .i64 x.sig, .slice ja bs.length jc] 49)).heap.size := HR5.out.be.size
          have HONE : Hid (∀ z ∈ [(⟨x.sig, .slice ja bs.length jc, bs⟩ : Fr)], ∀ u ∈ frV z, u.oneCell' = true) := fun z hz => by rw [List.mem_singleton.1 hz]; exact oneFr _ ⟨_, _, _, rfl⟩
          have HCELL : Hid (0 < [(⟨x.sig, .slice ja bs.length jc, bs⟩ : Fr)].length → ∃ b off, some (⟨w4.heap.size, 0, none⟩ : Addr) = some ⟨b, off, none⟩ ∧ ∀ j u, (rowOf frV [(⟨x.sig, .slice ja bs.length jc, bs⟩ : Fr)])[j]? = some u → (w4.alloc (.cells #[.int .i64 x.sig, .slice ja bs.length jc] 49)).cell? ⟨b, off + j, none⟩ = some u) := fun _ => ⟨_, _, rfl, row_new _ _ _ _ frV rfl⟩
          have HMX : Hid (fs.length + [(⟨x.sig, .slice ja bs.length jc, bs⟩ : Fr)].length ≤ maxLen) := by show _ ≤ _; have := HFL.out; have := HJL.out; have := HML.out; unfold maxLen; simp; omega
          have HBY : Hid ((fs.length + [(⟨x.sig, .slice ja bs.length jc, bs⟩ : Fr)].length) * 32 ≤ 140737488355328) := by show _ ≤ _; have := HFL.out; have := HJL.out; have := HML.out; simp; omega
          clear hob hbx hr4 hk4 hb5 ho4 HC HR3 HT3 HO3
          go_wp2_with (at_builtin; refine wpList_append_row frW (by decide) infoFn Tryz.underlying26 zeroFn rfl (.tmp 19) (.tmp 21) rfl (W2 w).heap.size (.slice fa fs.length fc) rfl fs.length (rowOf frV fs) HO5.out.1 (some ⟨w4.heap.size, 0, none⟩) 1 1 [(⟨x.sig, .slice ja bs.length jc, bs⟩ : Fr)] rfl rfl HONE.out (fun h => by cases h) HCELL.out HMX.out HBY.out hsz ?_)
          intro v6 w6 hown6 hgr6
          have HR6 := hid (Rdr_grown HR5.out HO5.out.1 (Nat.le_refl _) (by decide) hgr6)
          have HT6 := hid (HT5.out.other hgr6 (own_typed HO5.out.1) (by decide) (by decide))
          have HO6 := hid (fns_more (y := ⟨x.sig, .slice ja bs.length jc, bs⟩) HO5.out HB5.out hown6 hgr6)
          obtain ⟨p5, c5, h50⟩ := own_form hown6
          subst h50
          clear hown6 hgr6 hsz HR5 HT5 HO5 HB5
          go_wp2
          go_roundg (gk - (1 + n))
          case measure => have := HJ.out; have := HLT.out; omega
          case rel =>
            refine ⟨j + (1 + n), ws4, rg4, fs ++ [(⟨x.sig, .slice ja bs.length jc, bs⟩ : Fr)], by have := HJ.out; have := HLT.out; have := HLN.out; omega, by have := HLT.out; have := HLN.out; omega, by have := HFL.out; simp; omega, ?_, by rw [HDM.out]; exact HR6.out, HT6.out, HO6.out⟩
            rw [HFX.out, List.map_append]
            have hxx : (⟨x.sig, bs.map Br.bx⟩ : Fx) = x := by rw [HBX.out]
            show _ = preG (_ ++ [(⟨x.sig, bs.map Br.bx⟩ : Fx)]) _
            rw [hxx]
end Go.Proofs.YtbebficgcemkoaaGreatDoor.RcX
