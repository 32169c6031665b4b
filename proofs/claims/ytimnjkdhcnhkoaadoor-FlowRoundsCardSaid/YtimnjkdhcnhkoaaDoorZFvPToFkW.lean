/- Plain facts: the rounds of fescueref09.Come, step by step. Plain facts on a search through a graph of few vertices: a list that grows by what its own members go to. What is asked of the package flow: its functions' contracts, as propositions. Walk over fescuelaw09.alive. Walks over fescuelaw09.among and comes. Walk over fescuelaw09.FlowNames. Walk over shape.Regs. Walks over flow.next, find, Next. Walks over (*flow.walk).each, (*flow.walk).through and flow.behind. -/
import Derived.Test.YtimnjkdhcnhkoaaDoorZShIToFvA
import Derived.Test.YtimnjkdhcnhkoaaDoorZFwRToTyRT
import Derived.Test.YtimnjkdhcnhkoaaDoorZShA
import Derived.Test.YtimnjkdhcnhkoaaDoorZTyBToTyREG
import Derived.Test.YtimnjkdhcnhkoaaDoorZIntOToAft
import Derived.Deep.RegionHeld3
import Derived.Test.YtimnjkdhcnhkoaaDoorZRwHToShTB
namespace Go.Proofs.YtimnjkdhcnhkoaaDoor.FvP
open TyM ShM ShP FwM FwC FwP FwQ

theorem mark_len (but : Int) (out : List Bool) (j : Nat) : (FwC.mark but out j).length = out.length := by unfold FwC.mark; rw [List.length_set]
theorem begin_len (but : Int) (out : List Bool) (j : Nat) : (FwC.begin but out j).length = out.length := by unfold FwC.begin; rw [List.length_set]
/-- the start, the first i ones marked -/
def startO (but : Int) (n : Nat) (first : List Nat) (i : Nat) : List Bool := (first.take i).foldl (FwC.begin but) (List.replicate n false)
theorem startO_succ {but : Int} {n : Nat} {first : List Nat} {i : Nat} (h : i < first.length) : startO but n first (i + 1) = (startO but n first i).set first[i] (decide ((first[i] : Int) ≠ but)) := by
  unfold startO
  rw [List.take_succ_eq_append_getElem h, List.foldl_append]
  rfl
theorem startO_len (but : Int) (n : Nat) (first : List Nat) : ∀ i, (startO but n first i).length = n := by
  have : ∀ (l : List Nat) (o : List Bool), (l.foldl (FwC.begin but) o).length = o.length := by
    intro l
    induction l with
    | nil => intro o; rfl
    | cons f l ih => intro o; rw [List.foldl_cons, ih, begin_len]
  intro i
  unfold startO
  rw [this, List.length_replicate]
theorem startO_all (but : Int) (n : Nat) (first : List Nat) : startO but n first first.length = FwC.start but n first := by
  unfold startO FwC.start
  rw [List.take_length]
/-- within a block's list -/
def inO (but : Int) (l : List Nat) (k : Nat) (out : List Bool) : List Bool := (l.take k).foldl (FwC.mark but) out
theorem inO_succ {but : Int} {l : List Nat} {k : Nat} {out : List Bool} (h : k < l.length) : inO but l (k + 1) out = (inO but l k out).set l[k] (has (inO but l k out) l[k] || decide ((l[k] : Int) ≠ but)) := by
  unfold inO
  rw [List.take_succ_eq_append_getElem h, List.foldl_append]
  rfl
theorem inO_all (but : Int) (l : List Nat) (out : List Bool) : inO but l l.length out = l.foldl (FwC.mark but) out := by
  unfold inO
  rw [List.take_length]
theorem inO_le (but : Int) (l : List Nat) (k : Nat) (out : List Bool) : Le out (inO but l k out) := foldl_le _ (mark_le but) _ _
theorem inO_has {but : Int} {l : List Nat} {k v : Nat} {out : List Bool} (h : has out v = true) : has (inO but l k out) v = true := (inO_le but l k out).2 v h
theorem inO_len (but : Int) (l : List Nat) (k : Nat) (out : List Bool) : (inO but l k out).length = out.length := (inO_le but l k out).1.symm
/-- within a round -/
def midO (t : Nat → List Nat) (but : Int) (out : List Bool) (i : Nat) : List Bool := (List.range i).foldl (goes t but) out
theorem midO_succ (t : Nat → List Nat) (but : Int) (out : List Bool) (i : Nat) : midO t but out (i + 1) = goes t but (midO t but out i) i := by
  unfold midO
  rw [List.range_succ, List.foldl_append]
  rfl
theorem midO_yes {t : Nat → List Nat} {but : Int} {out : List Bool} {i : Nat} (h : has (midO t but out i) i = true) : midO t but out (i + 1) = inO but (t i) (t i).length (midO t but out i) := by
  rw [midO_succ, inO_all]
  unfold goes
  rw [if_pos h]
theorem midO_no {t : Nat → List Nat} {but : Int} {out : List Bool} {i : Nat} (h : has (midO t but out i) i = false) : midO t but out (i + 1) = midO t but out i := by
  rw [midO_succ]
  unfold goes
  rw [if_neg (by rw [h]; simp)]
theorem midO_len (t : Nat → List Nat) (but : Int) (out : List Bool) (i : Nat) : (midO t but out i).length = out.length := (foldl_le _ (goes_le t but) _ _).1.symm
theorem pass_mid (t : Nat → List Nat) (but : Int) (n : Nat) (out : List Bool) : midO t but out n = pass t but n out := rfl
theorem passes_snoc (t : Nat → List Nat) (but : Int) (n : Nat) : ∀ (k : Nat) (out : List Bool), passes t but n (k + 1) out = pass t but n (passes t but n k out)
  | 0, _ => rfl
  | k + 1, out => passes_snoc t but n k (pass t but n out)
theorem passes_len (t : Nat → List Nat) (but : Int) (n k : Nat) (out : List Bool) : (passes t but n k out).length = out.length := (passes_le t but n k out).1.symm
theorem has_at {bs : List Bool} {i : Nat} {b : Bool} (h : bs[i]? = some b) : has bs i = b := by
  unfold has
  rw [List.getD_eq_getElem?_getD, h]
  rfl
end Go.Proofs.YtimnjkdhcnhkoaaDoor.FvP
namespace Go.Proofs.YtimnjkdhcnhkoaaDoor.FwB
open TyM ShM ShP ShE ShH ShI ShN FwM FwC FwP FwQ

/-- what has been met, coming from one, when the first i have been gone through -/
structure Bfs (t : Nat → List Nat) (n a i : Nat) (seen : List Nat) : Prop where
  nd : seen.Nodup
  lt : ∀ v ∈ seen, v < n
  snd : ∀ v ∈ seen, FwM.Comes t a v
  mem : a ∈ seen
  closed : ∀ j u, j < i → seen[j]? = some u → ∀ c ∈ t u, c ∈ seen
theorem Bfs.start {t : Nat → List Nat} {n a : Nat} (h : a < n) : Bfs t n a 0 [a] :=
  ⟨by simp, fun v hv => by rw [List.mem_singleton.1 hv]; exact h, fun v hv => by rw [List.mem_singleton.1 hv]; exact .here, by simp, fun j u hj => absurd hj (by omega)⟩
theorem Bfs.len {t : Nat → List Nat} {n a i : Nat} {seen : List Nat} (h : Bfs t n a i seen) : seen.length ≤ n := nodup_len n h.nd h.lt
/-- one that is not there yet -/
theorem Bfs.put {t : Nat → List Nat} {n a i c u : Nat} {seen : List Nat} (ht : ∀ i, i < n → ∀ j ∈ t i, j < n) (h : Bfs t n a i seen) (hu : u ∈ seen) (hc : c ∈ t u) (hn : c ∉ seen) (hi : i ≤ seen.length) : Bfs t n a i (seen ++ [c]) := by
  refine ⟨?_, fun v hv => ?_, fun v hv => ?_, by simp [h.mem], fun j v hj hv d hd => ?_⟩
  · rw [List.nodup_append]
    refine ⟨h.nd, by simp, fun x hx y hy e => hn ?_⟩
    rw [List.mem_singleton.1 hy] at e
    exact e ▸ hx
  · rcases List.mem_append.1 hv with hv | hv
    · exact h.lt v hv
    · rw [List.mem_singleton.1 hv]; exact ht u (h.lt u hu) c hc
  · rcases List.mem_append.1 hv with hv | hv
    · exact h.snd v hv
    · rw [List.mem_singleton.1 hv]; exact .step (h.snd u hu) hc
  · rw [List.getElem?_append_left (by omega)] at hv
    exact List.mem_append.2 (.inl (h.closed j v hj hv d hd))
/-- one more has been gone through -/
theorem Bfs.next {t : Nat → List Nat} {n a i u : Nat} {seen : List Nat} (h : Bfs t n a i seen) (hu : seen[i]? = some u) (hall : ∀ c ∈ t u, c ∈ seen) : Bfs t n a (i + 1) seen := by
  refine ⟨h.nd, h.lt, h.snd, h.mem, fun j v hj hv => ?_⟩
  by_cases e : j = i
  · subst e
    rw [hu] at hv
    cases hv
    exact hall
  · exact h.closed j v (by omega) hv
/-- all have been gone through: what has been met is what can be come to -/
theorem Bfs.all {t : Nat → List Nat} {n a : Nat} {seen : List Nat} (h : Bfs t n a seen.length seen) (v : Nat) : v ∈ seen ↔ FwM.Comes t a v := by
  refine ⟨h.snd v, fun hc => ?_⟩
  induction hc with
  | here => exact h.mem
  | step _ hd ih =>
    obtain ⟨j, hj, e⟩ := List.getElem_of_mem ih
    exact h.closed j _ hj (by rw [List.getElem?_eq_getElem hj, e]) _ hd
/-- can one be come to from another one, as a bool -/
def comeB (l : List Bx) (a b : Nat) : Bool := has (comeO (succ l) (-1) l.length [a]) b
theorem comeB_iff {l : List Bx} (h : Low l) {a b : Nat} (ha : a < l.length) : comeB l a b = true ↔ FwM.Comes (succ l) a b := by
  unfold comeB
  rw [come_iff (succ_lt h) (fun x hx => by rw [List.mem_singleton.1 hx]; exact ha), way_comes (by decide)]
  simp
end Go.Proofs.YtimnjkdhcnhkoaaDoor.FwB
namespace Go.Proofs.YtimnjkdhcnhkoaaDoor.FwK
open Go.RowKit Go.Lib SetP IntO TyM TyP TyB ShM ShP ShA ShI FwP FwQ FwR

def I64 (n : Int) : Prop := -9223372036854775808 ≤ n ∧ n ≤ 9223372036854775807
def NextC : Prop := ∀ (p : Px) (f b : Int) (v : Value) (w : World), PrAt w v p → Tab w → Small p → POk p → I64 f → I64 b →
  Calls Tryd.prog 9 #[v, .int .i64 f, .int .i64 b] w (LstN (nextA p f b) (askB p f b) w)
def PredsC : Prop := ∀ (p : Px) (f b : Int) (v : Value) (w : World), PrAt w v p → Tab w → Small p → POk p → I64 f → I64 b →
  Calls Tryd.prog 18 #[v, .int .i64 f, .int .i64 b] w (LstN (predsA p f b) (askB p f b) w)
def RoundC : Prop := ∀ (p : Px) (f b : Int) (v : Value) (w : World), PrAt w v p → Tab w → Small p → POk p → I64 f → I64 b →
  Calls Tryd.prog 11 #[v, .int .i64 f, .int .i64 b] w (BoolE (roundA p f b) (askB p f b) w)
def ReachC : Prop := ∀ (p : Px) (f : Int) (v : Value) (w : World), PrAt w v p → Tab w → Small p → POk p → I64 f →
  Calls Tryd.prog 10 #[v, .int .i64 f] w (LstN (reachA p f) (findP p f) w)
def OrderC : Prop := ∀ (p : Px) (f : Int) (v : Value) (w : World), PrAt w v p → Tab w → Small p → POk p → I64 f →
  Calls Tryd.prog 12 #[v, .int .i64 f] w (LstN (orderA p f) (findP p f) w)
theorem NextC.e (h : NextC) : ∀ (p : Px) (f b : Int) (v : Value) (w : World), PrAt w v p → Tab w → Small p → POk p → I64 f → I64 b → Calls Tryd.prog 9 #[v, .int .i64 f, .int .i64 b] w (LstE (nextA p f b) (askB p f b) w) := fun p f b v w h1 h2 h3 h4 j1 j2 => (h p f b v w h1 h2 h3 h4 j1 j2).mono fun _ _ h => h.e
theorem PredsC.e (h : PredsC) : ∀ (p : Px) (f b : Int) (v : Value) (w : World), PrAt w v p → Tab w → Small p → POk p → I64 f → I64 b → Calls Tryd.prog 18 #[v, .int .i64 f, .int .i64 b] w (LstE (predsA p f b) (askB p f b) w) := fun p f b v w h1 h2 h3 h4 j1 j2 => (h p f b v w h1 h2 h3 h4 j1 j2).mono fun _ _ h => h.e
theorem ReachC.e (h : ReachC) : ∀ (p : Px) (f : Int) (v : Value) (w : World), PrAt w v p → Tab w → Small p → POk p → I64 f → Calls Tryd.prog 10 #[v, .int .i64 f] w (LstE (reachA p f) (findP p f) w) := fun p f v w h1 h2 h3 h4 j1 => (h p f v w h1 h2 h3 h4 j1).mono fun _ _ h => h.e
theorem OrderC.e (h : OrderC) : ∀ (p : Px) (f : Int) (v : Value) (w : World), PrAt w v p → Tab w → Small p → POk p → I64 f → Calls Tryd.prog 12 #[v, .int .i64 f] w (LstE (orderA p f) (findP p f) w) := fun p f v w h1 h2 h3 h4 j1 => (h p f v w h1 h2 h3 h4 j1).mono fun _ _ h => h.e
end Go.Proofs.YtimnjkdhcnhkoaaDoor.FwK
namespace Go.Proofs.YtimnjkdhcnhkoaaDoor.FyA
open Go.RowKit Go.Lib SetP IntO TyM TyP TyB TyRE ShM ShP ShA ShB ShI PgB FwP FwQ FwR FwK FyP

theorem f1 : nextA chapP 0 0 = [1, 2] := by decide +kernel
theorem f2 : askB chapP 0 0 = 0 := by decide +kernel
theorem f3 : predsA chapP 0 0 = [1] := by decide +kernel
theorem f4 : orderA chapP 0 = [0, 2, 1] := by decide +kernel
theorem f5 : findP chapP 0 = 0 := by decide +kernel
theorem f6 : roundA chapP 0 1 = true := by decide +kernel
theorem f7 : askB chapP 0 1 = 0 := by decide +kernel

set_option maxRecDepth 100000 in
set_option maxHeartbeats 8000000 in
theorem alive_of (CN : NextC) (CP : PredsC) (CO : OrderC) (CR : RoundC) (W : World) (ht : Tab W) : Calls Tryd.prog 13 #[] W (BoolR true W) := by
  have HT := hid ht
  have HB0 := hid (Below.refl W.heap.size W)
  clear ht
  go_enter Tryd.func13, Tryd.ntmps13
  go_wp2_with fail
  refine (chap_calls _).mono ?_
  rintro e w1 ⟨v, rfl, hp, hb⟩
  have HB1 := hid (HB0.out.trans (hb.mono HB0.out.size))
  clear hb
  have HPX := hid hp
  obtain ⟨_, _, rfl, _⟩ := hp
  have HC := hid (NextC.e CN chapP 0 0 _ _ HPX.out (HT.out.on HB1.out) chap_small chap_ok ⟨by decide, by decide⟩ ⟨by decide, by decide⟩)
  rw [f1, f2] at HC
  go_wp2_with fail
  refine HC.out.mono ?_
  rintro e w2 ⟨u0, rfl, hu0, hb⟩
  have HB2 := hid (HB1.out.trans (hb.mono HB1.out.size))
  clear hb
  have HU0 := hid hu0
  obtain ⟨q0, c0, rfl, _⟩ := ints_slice hu0
  clear hu0 HC
  clear HPX
  go_wp2_with fail
  refine (chap_calls _).mono ?_
  rintro e w3 ⟨v, rfl, hp, hb⟩
  have HB3 := hid (HB2.out.trans (hb.mono HB2.out.size))
  have HU0 := hid (HU0.out.below hb)
  clear hb
  have HPX := hid hp
  obtain ⟨_, _, rfl, _⟩ := hp
  have HC := hid (PredsC.e CP chapP 0 0 _ _ HPX.out (HT.out.on HB3.out) chap_small chap_ok ⟨by decide, by decide⟩ ⟨by decide, by decide⟩)
  rw [f3, f2] at HC
  go_wp2_with fail
  refine HC.out.mono ?_
  rintro e w4 ⟨u1, rfl, hu1, hb⟩
  have HB4 := hid (HB3.out.trans (hb.mono HB3.out.size))
  have HU0 := hid (HU0.out.below hb)
  clear hb
  have HU1 := hid hu1
  obtain ⟨q1, c1, rfl, _⟩ := ints_slice hu1
  clear hu1 HC
  clear HPX
  go_wp2_with fail
  refine (chap_calls _).mono ?_
  rintro e w5 ⟨v, rfl, hp, hb⟩
  have HB5 := hid (HB4.out.trans (hb.mono HB4.out.size))
  have HU0 := hid (HU0.out.below hb)
  have HU1 := hid (HU1.out.below hb)
  clear hb
  have HPX := hid hp
  obtain ⟨_, _, rfl, _⟩ := hp
  have HC := hid (OrderC.e CO chapP 0 _ _ HPX.out (HT.out.on HB5.out) chap_small chap_ok ⟨by decide, by decide⟩)
  rw [f4, f5] at HC
  go_wp2_with fail
  refine HC.out.mono ?_
  rintro e w6 ⟨u2, rfl, hu2, hb⟩
  have HB6 := hid (HB5.out.trans (hb.mono HB5.out.size))
  have HU0 := hid (HU0.out.below hb)
  have HU1 := hid (HU1.out.below hb)
  clear hb
  have HU2 := hid hu2
  obtain ⟨q2, c2, rfl, _⟩ := ints_slice hu2
  clear hu2 HC
  clear HPX
  go_wp2_with fail
  refine (chap_calls _).mono ?_
  rintro e w7 ⟨v, rfl, hp, hb⟩
  have HB7 := hid (HB6.out.trans (hb.mono HB6.out.size))
  have HU0 := hid (HU0.out.below hb)
  have HU1 := hid (HU1.out.below hb)
  have HU2 := hid (HU2.out.below hb)
  clear hb
  have HPX := hid hp
  obtain ⟨_, _, rfl, _⟩ := hp
  have HC := hid (CR chapP 0 1 _ _ HPX.out (HT.out.on HB7.out) chap_small chap_ok ⟨by decide, by decide⟩ ⟨by decide, by decide⟩)
  rw [f6, f7] at HC
  go_wp2_with fail
  refine HC.out.mono ?_
  rintro e w8 ⟨rfl, hb⟩
  have HB8 := hid (HB7.out.trans (hb.mono HB7.out.size))
  have HU0 := hid (HU0.out.below hb)
  have HU1 := hid (HU1.out.below hb)
  have HU2 := hid (HU2.out.below hb)
  clear hb
  clear HC
  clear HPX
  have HL := hid (ints_lit w8 [1, 2] 2 #[.int .i64 1, .int .i64 2] rfl rfl (by decide))
  have hbl := alloc_below w8 (.cells #[.int .i64 1, .int .i64 2] 3)
  have HQ := hid (sameInts_calls _ _ [1, 2] [1, 2] _ (HU0.out.below hbl) HL.out)
  rw [decide_eq_true rfl] at HQ
  have hbx := HB8.out.trans (hbl.mono HB8.out.size)
  have HU0 := hid (HU0.out.below hbl)
  have HU1 := hid (HU1.out.below hbl)
  have HU2 := hid (HU2.out.below hbl)
  have HB8 := hid hbx
  clear hbl hbx
  go_wp2_with fail
  refine HQ.out.mono ?_
  rintro e w9 ⟨rfl, hb⟩
  have HB9 := hid (HB8.out.trans (hb.mono HB8.out.size))
  have HU0 := hid (HU0.out.below hb)
  have HU1 := hid (HU1.out.below hb)
  have HU2 := hid (HU2.out.below hb)
  clear hb
  clear HQ HL
  have HL := hid (ints_lit w9 [1] 1 #[.int .i64 1] rfl rfl (by decide))
  have hbl := alloc_below w9 (.cells #[.int .i64 1] 3)
  have HQ := hid (sameInts_calls _ _ [1] [1] _ (HU1.out.below hbl) HL.out)
  rw [decide_eq_true rfl] at HQ
  have hbx := HB9.out.trans (hbl.mono HB9.out.size)
  have HU0 := hid (HU0.out.below hbl)
  have HU1 := hid (HU1.out.below hbl)
  have HU2 := hid (HU2.out.below hbl)
  have HB9 := hid hbx
  clear hbl hbx
  go_wp2_with fail
  refine HQ.out.mono ?_
  rintro e w10 ⟨rfl, hb⟩
  have HB10 := hid (HB9.out.trans (hb.mono HB9.out.size))
  have HU0 := hid (HU0.out.below hb)
  have HU1 := hid (HU1.out.below hb)
  have HU2 := hid (HU2.out.below hb)
  clear hb
  clear HQ HL
  have HL := hid (ints_lit w10 [0, 2, 1] 3 #[.int .i64 0, .int .i64 2, .int .i64 1] rfl rfl (by decide))
  have hbl := alloc_below w10 (.cells #[.int .i64 0, .int .i64 2, .int .i64 1] 3)
  have HQ := hid (sameInts_calls _ _ [0, 2, 1] [0, 2, 1] _ (HU2.out.below hbl) HL.out)
  rw [decide_eq_true rfl] at HQ
  have hbx := HB10.out.trans (hbl.mono HB10.out.size)
  have HU0 := hid (HU0.out.below hbl)
  have HU1 := hid (HU1.out.below hbl)
  have HU2 := hid (HU2.out.below hbl)
  have HB10 := hid hbx
  clear hbl hbx
  go_wp2_with fail
  refine HQ.out.mono ?_
  rintro e w11 ⟨rfl, hb⟩
  have HB11 := hid (HB10.out.trans (hb.mono HB10.out.size))
  have HU0 := hid (HU0.out.below hb)
  have HU1 := hid (HU1.out.below hb)
  have HU2 := hid (HU2.out.below hb)
  clear hb
  clear HQ HL
  go_wp2
  go_ret
  exact ⟨rfl, HB11.out⟩
end Go.Proofs.YtimnjkdhcnhkoaaDoor.FyA
namespace Go.Proofs.YtimnjkdhcnhkoaaDoor.FyC
open Go.RowKit Go.Lib SetP IntO TyM TyP TyB TyC ShM ShP ShA ShB ShC ShE ShH ShI ShJ Aft Fresh FwM FwC FwP FwQ FwR FwB FwK FwO FvA

set_option maxHeartbeats 1000000 in
theorem among_same (v : Value) (l : List Int) (n : Int) (w : World) (h : IntsAt w v l) :
    Calls Tryd.prog 22 #[v, .int .i64 n] w fun e w' => e = .returned (.bool (decide (n ∈ l))) ∧ w = w' := by
  have HA := hid h
  obtain ⟨ao, ac, rfl, hla⟩ := ints_slice h
  clear h
  go_enter Tryd.func22, Tryd.ntmps22
  go_wp2
  go_loop [5] (fun i => ∃ k : Nat, k ≤ l.length ∧ i = .int .i64 k ∧ NotIn n l k) (fun i => l.length - (intOf i).toNat)
  case atStart => exact ⟨0, Nat.zero_le _, rfl, notIn_zero n l⟩
  case round =>
    obtain ⟨k, hk, rfl, hni⟩ := hrel
    have HNI := hid hni
    clear hni
    by_cases hlt : k < l.length
    · obtain ⟨ab, aoff, rfl, _, ca⟩ := TyP.ints_at HA.out k hlt
      have HS := hid (notIn_succ HNI.out hlt)
      have HI := hid (in_of (n := n) hlt)
      clear HNI
      generalize l[k] = x at *
      by_cases hx : x = n
      · have hd : (x == n) = true := by simpa using hx
        have HM := hid (HI.out hx)
        clear HS HI hx
        go_wp2
        go_ret
        exact ⟨by rw [decide_eq_true HM.out]; rfl, rfl⟩
      · have hd : (x == n) = false := by simpa using hx
        have HM := hid (HS.out hx)
        clear HS HI hx
        go_wp2
        go_round
        case rel => exact ⟨k + 1, by omega, by go_num, HM.out⟩
        case measure => simp [intOf]; omega
    · obtain rfl : k = l.length := by omega
      have HM := hid (notIn_all HNI.out)
      clear HNI
      generalize l.length = m at *
      go_wp2
      go_ret
      exact ⟨by rw [decide_eq_false HM.out]; rfl, rfl⟩

theorem among_calls (v : Value) (l : List Int) (n : Int) (w : World) (h : IntsAt w v l) :
    Calls Tryd.prog 22 #[v, .int .i64 n] w (BoolR (decide (n ∈ l)) w) :=
  (among_same v l n w h).mono fun _ _ ⟨h1, h2⟩ => ⟨h1, h2 ▸ Below.refl _ _⟩

/-- the first k of a list are among some -/
def Met (tl seen : List Nat) (k : Nat) : Prop := ∀ j c, j < k → tl[j]? = some c → c ∈ seen
theorem met_all {tl seen : List Nat} (h : Met tl seen tl.length) : ∀ c ∈ tl, c ∈ seen := by
  intro c hc
  obtain ⟨j, hj, e⟩ := List.getElem_of_mem hc
  exact h j c hj (by rw [List.getElem?_eq_getElem hj, e])
theorem met_next {tl seen seen' : List Nat} {k c : Nat} (h : Met tl seen k) (hs : ∀ x ∈ seen, x ∈ seen') (hk : tl[k]? = some c) (hc : c ∈ seen') : Met tl seen' (k + 1) := by
  intro j x hj hx
  by_cases e : j = k
  · subst e
    rw [hk] at hx
    cases hx
    exact hc
  · exact hs x (h j x (by omega) hx)

set_option maxRecDepth 100000 in
set_option maxHeartbeats 16000000 in
theorem comes_of (CN : NextC) (p : Px) (f : Int) (a b : Nat) (v : Value) (w : World) (hp : PrAt w v p) (ht : Tab w) (hs : Small p) (hok : POk p) (hf : I64 f) (hz : findP p f = 0) (ha : a < (blsP p f).length) :
    Calls Tryd.prog 23 #[v, .int .i64 f, .int .i64 a, .int .i64 b] w (BoolR (comeB (blsP p f) a b) w) := by
  obtain ⟨hlow, hn0, hn16⟩ := low_fn hok hz
  have HLT := hid (succ_lt hlow)
  have HAL : Hid (∀ seen : List Nat, Bfs (succ (blsP p f)) (blsP p f).length a seen.length seen → decide ((b : Int) ∈ ints seen) = comeB (blsP p f) a b) := fun seen h => by
    rw [Bool.eq_iff_iff, decide_eq_true_iff, ints_mem, h.all b]
    exact (comeB_iff hlow ha).symm
  have HS2 := hid (fun u => succ_len (blsP p f) u)
  have HAS := hid (fun (u : Nat) (hu : u < (blsP p f).length) => ask_yes (b := (u : Int)) hz (by omega) (by omega))
  have HNS := hid (fun (u : Nat) (hu : u < (blsP p f).length) => next_succ (b := u) hok (ask_yes hz (by omega) (by omega)))
  have hp0 := hp
  obtain ⟨vt, vf, rfl, htt, hff⟩ := hp
  obtain ⟨W, hW⟩ : ∃ W, W = w.alloc (.cells #[vt, vf] 25) := ⟨_, rfl⟩
  have hbW : Below w.heap.size w W := by rw [hW]; exact alloc_below _ _
  have k1 : W.heap[w.heap.size]? = some (.cells #[vt, vf] 25 (0, 0)) := by rw [hW]; exact alloc_new _ _
  have hpW := hp0.below hbW
  have HC := hid (fun (u : Nat) (hu : u < (blsP p f).length) (wx : World) (h : Aft W wx) => CN p f u _ wx (hpW.below h.below) (ht.on (hbW.trans (h.below.mono hbW.size))) hs hok hf ⟨by omega, by omega⟩)
  obtain ⟨ta, tc, rfl⟩ := htt.slice
  obtain ⟨fa, fc, rfl, _⟩ := hff.slice
  have l0 := later_cells k1 0 _ rfl; have l1 := later_cells k1 1 _ rfl
  have HBW := hid hbW
  have HW := hid hW
  have hO1 : (W.alloc (.cells #[.int .i64 a] 3)).ownsRow W.heap.size 3 1 (.slice (some ⟨w.heap.size + 1, 0, none⟩) 1 1) 1 (intVals (ints [a])) := owns_lit_at W W (ints [a]) (w.heap.size + 1) 1 #[.int .i64 a] (Nat.le_refl _) (by rw [hW]; simp only [World.size_alloc]) rfl rfl (by simp [ints])
  have HO1 := hid hO1
  have HB1 := hid (alloc_below W (.cells #[.int .i64 a] 3))
  have HA := hid ha
  have HN := hid hn16
  have HST := hid (Bfs.start (t := succ (blsP p f)) ha)
  clear htt hff hpW hbW hW k1 hp0 hs hok hf hz hlow hn0 ht hO1 ha
  generalize succ (blsP p f) = t at *
  generalize (blsP p f).length = n at *
  generalize comeB (blsP p f) a b = ans at *
  generalize p.types.length = n1 at *
  generalize p.funcs.length = n2 at *
  go_enter Tryd.func23, Tryd.ntmps23
  go_wp2_with fail
  rw [← HW.out]
  go_loopg [9, 10] n (fun gk u i wr => ∃ (k : Nat) (seen : List Nat), k + gk = n ∧ k ≤ seen.length ∧ i = .int .i64 k ∧ Bfs t n a k seen ∧ wr.ownsRow W.heap.size 3 1 u seen.length (intVals (ints seen)) ∧ Below W.heap.size W wr)
  case atStart => exact ⟨0, [a], by omega, by simp, rfl, HST.out, HO1.out, HB1.out⟩
  case round =>
    obtain ⟨k, seen, hk, hks, rfl, hbfs, hown, hbe⟩ := hrel
    have HK := hid hk
    have HBF := hid hbfs
    have HOWN := hid hown
    have hsl : seen.length ≤ 16 := Nat.le_trans hbfs.len HN.out
    have HSL := hid hsl
    obtain ⟨ua, un, rfl⟩ := own_slice hown
    have hA : Aft W wr := hbe
    by_cases hlt : k < seen.length
    · have HKL := hid hlt
      have hk20 : k < 20 := by omega
      have hkl : (k : Int) < (seen.length : Int) := by omega
      have hk21 : (k : Int) < 20 := by omega
      have hu : seen[k] < n := hbfs.lt _ (List.getElem_mem hlt)
      have hgu : seen[k]? = some seen[k] := List.getElem?_eq_getElem hlt
      obtain ⟨b2, o2, rfl, _, c2⟩ := TyP.ints_at (intsAt_of_owns hown (by rw [ints_length]; omega)) k (by rw [ints_length]; exact hlt)
      rw [nums_at hlt] at c2
      have HGU := hid hgu
      have HU := hid hu
      have cs := later c2
      have hAd : Aft W wr.drew := hA.drew
      have hD := (Aft.refl wr).drew
      have r0 : ∀ w', Aft wr w' → w'.cell? ⟨w.heap.size, 0, none⟩ = some (.slice ta n1 tc) := fun w' h => l0 w' (hA.trans h)
      have r1 : ∀ w', Aft wr w' → w'.cell? ⟨w.heap.size, 1, none⟩ = some (.slice fa n2 fc) := fun w' h => l1 w' (hA.trans h)
      have HCC := hid (HC.out seen[k] hu wr.drew hAd)
      rw [HAS.out _ hu, HNS.out _ hu] at HCC
      have HS3 := hid (HS2.out seen[k])
      have HMT := hid (HLT.out seen[k] hu)
      have HPUT := hid (fun (s : List Nat) (c : Nat) (h : Bfs t n a k s) (h1 : s[k]? = some seen[k]) (h2 : c ∈ t seen[k]) (h3 : c ∉ s) (h4 : k ≤ s.length) => h.put HLT.out (List.mem_of_getElem? h1) h2 h3 h4)
      have HNX := hid (fun (s : List Nat) (h : Bfs t n a k s) (h1 : s[k]? = some seen[k]) (h2 : ∀ c ∈ t seen[k], c ∈ s) => h.next h1 h2)
      clear hk hown hbfs hgu hu c2
      generalize seen[k] = u at *
      generalize t u = tl at *
      go_wp2_with fail
      go_region_held3 (fun w' => Aft wr w') (first | exact hD.go hb3 | exact hD)
        ((go_at_call 9; refine HCC.out.mono ?_; rintro e w3 ⟨lu, rfl, hlu, hb3⟩))
      all_goals
        have h3 := hD.go hb3
        have HO3 := hid (ownsRow_below HOWN.out h3.below)
        have HAP := hid (apart_of hlu (u := .slice (some ⟨b2, o2, none⟩) seen.length un) (fun g hg => (HOWN.out.lt g hg).2))
        have HLU := hid hlu.1
        have HB3 := hid ((hA.trans h3).below)
        obtain ⟨la, lc, rfl, _⟩ := ints_slice hlu.1
        rw [ints_length] at HLU HAP
        rw [ints_length]
        obtain ⟨g1, hg1⟩ : ∃ g1 : Nat, g1 = gk := ⟨gk, rfl⟩
        subst hg1
        clear HCC hlu hb3 HOWN r0 r1 hD hAd hA h3 cs hbe
        go_wp2_with fail
        go_loopg [9, 13] tl.length (fun gk uv jv wr => ∃ (j : Nat) (s : List Nat), j + gk = tl.length ∧ k ≤ s.length ∧ s.length ≤ 16 ∧ jv = .int .i64 j ∧ Bfs t n a k s ∧ s[k]? = some u ∧ Met tl s j ∧ wr.ownsRow W.heap.size 3 1 uv s.length (intVals (ints s)) ∧ IntsAt wr (.slice la tl.length lc) (ints tl) ∧ Apart uv wr (.slice la tl.length lc) ∧ Below W.heap.size W wr)
        case atStart => exact ⟨0, seen, by omega, hks, hsl, rfl, HBF.out, HGU.out, (fun j c hj => by omega), HO3.out, HLU.out, HAP.out, HB3.out⟩
        case round =>
          obtain ⟨j, s, hj, hks2, hs16, rfl, hbf, hsk, hmet, hown, hli, hap, hbe⟩ := hrel
          have HJ := hid hj
          have HBF2 := hid hbf
          have HSK := hid hsk
          have HMET := hid hmet
          have HOWN := hid hown
          have HLI := hid hli
          have HAP2 := hid hap
          have HBE2 := hid hbe
          have HKS := hid hks2
          have HS16 := hid hs16
          obtain ⟨va, vn, rfl⟩ := own_slice hown
          clear HLU HAP HO3
          by_cases hjt : j < tl.length
          · have HJT := hid hjt
            obtain ⟨b4, o4, rfl, _, c4⟩ := TyP.ints_at hli j (by rw [ints_length]; exact hjt)
            rw [nums_at hjt] at c4
            have hgj : tl[j]? = some tl[j] := List.getElem?_eq_getElem hjt
            have HMJ := hid (List.getElem_mem hjt)
            have HGJ := hid hgj
            have hjl : (j : Int) < (tl.length : Int) := by omega
            have hjb : j ≤ 9223372036854775806 := by have := HS3.out; omega
            have HAM := hid (among_calls (.slice va s.length vn) (ints s) tl[j] wr (intsAt_of_owns hown (by rw [ints_length]; omega)))
            have hdec : decide ((tl[j] : Int) ∈ ints s) = decide (tl[j] ∈ s) := decide_eq_decide.2 ints_mem
            rw [hdec] at HAM
            have h0 := Aft.refl wr
            have c4l := later c4
            clear hj hbf hsk hmet hown hli hap hbe hgj hdec c4 hks2 hs16
            generalize tl[j] = c at *
            go_wp2_with fail
            refine HAM.out.mono ?_
            rintro e w5 ⟨rfl, hb5⟩
            have h5 := h0.go hb5
            have HO5 := hid (ownsRow_below HOWN.out hb5)
            have HL5 := hid (HLI.out.below hb5)
            have HA5 := hid (HAP2.out.below hb5.size)
            have HB5 := hid (HBE2.out.trans (hb5.mono HBE2.out.size))
            clear HAM hb5 HOWN HLI HAP2 HBE2
            by_cases hin : c ∈ s
            · have hd : decide (c ∈ s) = true := decide_eq_true hin
              have HM2 := hid (met_next HMET.out (fun _ h => h) HGJ.out hin)
              rw [hd]
              clear hin
              go_wp2
              go_roundg (gk - 1)
              case measure => have := HJ.out; have := HJT.out; omega
              case rel => exact ⟨j + 1, s, by have := HJ.out; have := HJT.out; omega, HKS.out, HS16.out, by go_num, HBF2.out, HSK.out, HM2.out, HO5.out, HL5.out, HA5.out, HB5.out⟩
            · have hd : decide (c ∈ s) = false := decide_eq_false hin
              have hputb := HPUT.out s c HBF2.out HSK.out HMJ.out hin HKS.out
              have HPB := hid hputb
              have HLEN2 := hid (Nat.le_trans hputb.len HN.out)
              have HM2 := hid (met_next (seen' := s ++ [c]) HMET.out (fun x hx => List.mem_append.2 (.inl hx)) HGJ.out (by simp))
              have HSK2 : Hid ((s ++ [c])[k]? = some u) := by
                show _ = _
                rw [List.getElem?_append_left (List.getElem?_eq_some_iff.1 HSK.out).1]
                exact HSK.out
              have HKS2 : Hid (k ≤ (s ++ [c]).length) := by show _ ≤ _; rw [List.length_append]; have := HKS.out; omega
              rw [hd]
              have hba : Below w5.heap.size w5 (w5.alloc (.cells #[.int .i64 c] 3)) := alloc_below _ _
              have HO6 := hid (HO5.out.alloc (.cells #[.int .i64 c] 3))
              have HI6 := hid (ints_one (w := w5.alloc (.cells #[.int .i64 c] 3)) (b := w5.heap.size) (n := c) (cell_new _ _ _ _ rfl) (size_new _ _ _ rfl))
              have HL6 := hid (HL5.out.below hba)
              have HA6 := hid (HA5.out.below hba.size)
              have HB6 := hid (HB5.out.trans (hba.mono HB5.out.size))
              have hsz : W.heap.size ≤ (w5.alloc (.cells #[.int .i64 c] 3)).heap.size := HB6.out.size
              clear hin hputb hba hd HO5 HL5 HA5 HB5
              go_wp2_with (at_builtin; refine wpList_append_intsN rfl (.tmp 49) (.tmp 54) rfl W.heap.size (.slice va s.length vn) rfl s.length (intVals (ints s)) HO6.out (by have := HS16.out; omega) (.slice (some ⟨w5.heap.size, 0, none⟩) 1 1) [(c : Int)] rfl HI6.out (by simp) hsz ?_)
              intro v7 w7 hown7 hgr7 hnr7
              have HB7 := hid (own_grown HB6.out HO6.out hgr7 hsz)
              have HO7 : Hid (w7.ownsRow W.heap.size 3 1 v7 (s ++ [c]).length (intVals (ints (s ++ [c])))) := by
                show World.ownsRow _ _ _ _ _ _ _
                rw [ints_append, intVals_append, List.length_append]
                exact hown7
              have HL7 := hid (HA6.out.ints hgr7 HL6.out)
              have HA7 := hid (HA6.out.grown hgr7 hnr7)
              obtain ⟨xa, xn, rfl⟩ := own_slice hown7
              clear hown7 hgr7 hnr7 HO6 HI6 HL6 HA6 HB6 hsz
              have he : s.length + 1 = (s ++ [c]).length := by simp
              rw [he] at HA7 HO7
              rw [he]
              generalize s ++ [c] = s2 at *
              clear he
              go_wp2
              go_roundg (gk - 1)
              case measure => have := HJ.out; have := HJT.out; omega
              case rel => exact ⟨j + 1, s2, by have := HJ.out; have := HJT.out; omega, HKS2.out, HLEN2.out, by go_num, HPB.out, HSK2.out, HM2.out, HO7.out, HL7.out, HA7.out, HB7.out⟩
          · obtain rfl : j = tl.length := by omega
            have HNB := hid (HNX.out s hbf hsk (met_all hmet))
            have hk2 : k + 1 ≤ s.length := (List.getElem?_eq_some_iff.1 hsk).1
            have HK2 := hid hk2
            clear hj hbf hsk hmet hown hli hap hbe hjt hks2
            go_wp2
            go_roundg (g1 - 1)
            case measure => have := HK.out; have := HNB.out.len; have := HK2.out; omega
            case rel => exact ⟨k + 1, s, by have := HK.out; have := HNB.out.len; have := HK2.out; omega, HK2.out, by go_num, HNB.out, HOWN.out, HBE2.out⟩
    · obtain rfl : k = seen.length := by omega
      have HRES := hid (HAL.out seen HBF.out)
      have HAM := hid (among_calls (.slice ua seen.length un) (ints seen) b wr (intsAt_of_owns hown (by rw [ints_length]; omega)))
      rw [HRES.out] at HAM
      clear hk hown hbfs HBF HAL HRES
      go_wp2_with fail
      refine HAM.out.mono ?_
      rintro e w5 ⟨rfl, hb5⟩
      have HE := hid ((hA.go hb5).out HBW.out)
      clear HAM hb5
      go_wp2
      go_ret
      exact ⟨rfl, HE.out⟩
end Go.Proofs.YtimnjkdhcnhkoaaDoor.FyC
namespace Go.Proofs.YtimnjkdhcnhkoaaDoor.FyN
open Go.RowKit Go.Lib SetP IntO TyM TyP TyB TyRE ShM ShP ShA ShB ShI PgB Aft FwP FwQ FwR FwK FyP FyP2 FyA

theorem g1 : nextA chap2P 0 0 = [1] := by decide +kernel
theorem g2 : askB chap2P 0 0 = 0 := by decide +kernel
theorem g3 : reachA chap2P 0 = [0, 1] := by decide +kernel
theorem g4 : findP chap2P 0 = 0 := by decide +kernel
theorem g5 : roundA chap2P 0 2 = false := by decide +kernel
theorem g6 : askB chap2P 0 2 = 0 := by decide +kernel
theorem g7 : nextA chap2P 0 2 = [] := by decide +kernel
theorem g8 : nextA chap2P 0 3 = [] := by decide +kernel
theorem g9 : askB chap2P 0 3 = 2 := by decide +kernel
theorem g10 : orderA chap2P 1 = [] := by decide +kernel
theorem g11 : findP chap2P 1 = 2 := by decide +kernel
theorem g12 : reachA noP 0 = [] := by decide +kernel
theorem g13 : findP noP 0 = 60 := by decide +kernel

set_option maxRecDepth 100000 in
set_option maxHeartbeats 8000000 in
theorem walk_of (CN : NextC) (CP : PredsC) (CO : OrderC) (CR : RoundC) (CE : ReachC) (W : World) (ht : Tab W) : Calls Tryd.prog 3 #[] W (fun e W' => e = .returned (.bool true) ∧ Below W.heap.size W W') := by
  have HT := hid ht
  have HB0 := hid (Below.refl W.heap.size W)
  clear ht
  go_enter Tryd.func3, Tryd.ntmps3
  go_wp2_with fail
  refine (chap_world _).mono ?_
  rintro e w0 ⟨rfl, hw0⟩
  obtain ⟨V, hV⟩ : ∃ V, V = (w0.alloc (.cells #[.slice (some ⟨W.heap.size + 1 + 1 + 1, 0, none⟩) 2 2, .slice (some ⟨W.heap.size + 1 + 1 + 1 + 1, 0, none⟩) 1 1] 25)) := ⟨_, rfl⟩
  have hb0 : Below W.heap.size W w0 := by rw [hw0]; exact chap_below _
  have hbV : Below w0.heap.size w0 V := by rw [hV]; exact alloc_below _ _
  have kb : V.heap[w0.heap.size]? = some (.cells #[.slice (some ⟨W.heap.size + 1 + 1 + 1, 0, none⟩) 2 2, .slice (some ⟨W.heap.size + 1 + 1 + 1 + 1, 0, none⟩) 1 1] 25 (0, 0)) := by rw [hV]; exact alloc_new _ _
  have hz : w0.heap.size = W.heap.size + 1 + 1 + 1 + 1 + 1 := by rw [hw0]; exact chap_size _
  have k1 := keepBlk hbV (by rw [hw0]; exact chap_h1 W)
  have k2 := keepBlk hbV (by rw [hw0]; exact chap_h2 W)
  have k3 := keepBlk hbV (by rw [hw0]; exact chap_h3 W)
  have k4 := keepBlk hbV (by rw [hw0]; exact chap_h4 W)
  have q0 := cells_of kb 0 _ rfl
  have q1 := cells_of kb 1 _ rfl
  have q4 := cells_of k4 1 _ rfl
  have q2 := cells_of k2 4 _ rfl
  have z2 : V.frozen? ⟨W.heap.size + 1 + 1, 4, none⟩ = false := (ShTB.cells_heap k2).2 4
  have HV := hid hV
  have HB1 := hid (hb0.trans (hbV.mono hb0.size))
  have HK := hid (And.intro kb (And.intro k1 (And.intro k2 (And.intro k3 k4))))
  have HZ := hid hz
  clear hw0 hV hb0 hbV kb hz k1 k2 k3 k4
  go_upto_region 2 with fail
  rw [← HV.out]
  go_upto_region 3 with fail
  obtain ⟨X, hX⟩ : ∃ X, X = V.setCell ⟨W.heap.size + 1 + 1, 4, none⟩ (.int .i64 1) := ⟨_, rfl⟩
  rw [← hX]
  obtain ⟨kb, k1, k2, k3, k4⟩ := HK.out
  have hz := HZ.out
  have hne : ∀ b, b ≠ W.heap.size + 1 + 1 → X.heap[b]? = V.heap[b]? := fun b h => by rw [hX]; exact Below.heap_setCell _ _ _ b h
  have j1 := (hne _ (by omega)).trans k1
  have j3 := (hne _ (by omega)).trans k3
  have j4 := (hne _ (by omega)).trans k4
  have jb := (hne w0.heap.size (by omega)).trans kb
  have j2 := ShTB.set_heap' (i := 4) (.int .i64 1) k2
  rw [← hX] at j2
  simp only [Array.setIfInBounds, List.size_toArray, List.length_cons, List.length_nil, List.set_toArray, List.set_cons_succ, List.set_cons_zero] at j2
  have HPX := hid (chap2_at j1 j2 j3 j4)
  have HB0 : Hid (Below W.heap.size W X) := by show Below _ _ _; rw [hX]; exact HB1.out.setCell (p := ⟨W.heap.size + 1 + 1, 4, none⟩) (by show W.heap.size ≤ W.heap.size + 1 + 1; omega) _
  have l0 := later_cells jb 0 _ rfl
  have l1 := later_cells jb 1 _ rfl
  have af0 := Aft.refl X
  clear hX hne j1 j2 j3 j4 jb k1 k2 k3 k4 kb hz q0 q1 q2 q4 z2 HK HV HB1
  have HC := hid (NextC.e CN chap2P 0 0 _ _ HPX.out (HT.out.on HB0.out) chap2_small chap2_ok ⟨by decide, by decide⟩ ⟨by decide, by decide⟩)
  rw [g1, g2] at HC
  go_wp2_with fail
  refine HC.out.mono ?_
  rintro e w1 ⟨u0, rfl, hu0, hb⟩
  have HB1 := hid (HB0.out.trans (hb.mono HB0.out.size))
  have HPX := hid (HPX.out.below hb)
  have af1 := af0.go hb
  clear hb
  have HU0 := hid hu0
  obtain ⟨q0, c0, rfl, _⟩ := ints_slice hu0
  clear hu0 HC
  have HC := hid (ReachC.e CE chap2P 0 _ _ HPX.out (HT.out.on HB1.out) chap2_small chap2_ok ⟨by decide, by decide⟩)
  rw [g3, g4] at HC
  go_wp2_with fail
  refine HC.out.mono ?_
  rintro e w2 ⟨u1, rfl, hu1, hb⟩
  have HB2 := hid (HB1.out.trans (hb.mono HB1.out.size))
  have HU0 := hid (HU0.out.below hb)
  have HPX := hid (HPX.out.below hb)
  have af2 := af1.go hb
  clear hb
  have HU1 := hid hu1
  obtain ⟨q1, c1, rfl, _⟩ := ints_slice hu1
  clear hu1 HC
  have HC := hid (CR chap2P 0 2 _ _ HPX.out (HT.out.on HB2.out) chap2_small chap2_ok ⟨by decide, by decide⟩ ⟨by decide, by decide⟩)
  rw [g5, g6] at HC
  go_wp2_with fail
  refine HC.out.mono ?_
  rintro e w3 ⟨rfl, hb⟩
  have HB3 := hid (HB2.out.trans (hb.mono HB2.out.size))
  have HU0 := hid (HU0.out.below hb)
  have HU1 := hid (HU1.out.below hb)
  have HPX := hid (HPX.out.below hb)
  have af3 := af2.go hb
  clear hb
  clear HC
  have HC := hid (NextC.e CN chap2P 0 2 _ _ HPX.out (HT.out.on HB3.out) chap2_small chap2_ok ⟨by decide, by decide⟩ ⟨by decide, by decide⟩)
  rw [g7, g6] at HC
  go_wp2_with fail
  refine HC.out.mono ?_
  rintro e w4 ⟨u2, rfl, hu2, hb⟩
  have HB4 := hid (HB3.out.trans (hb.mono HB3.out.size))
  have HU0 := hid (HU0.out.below hb)
  have HU1 := hid (HU1.out.below hb)
  have HPX := hid (HPX.out.below hb)
  have af4 := af3.go hb
  clear hb
  have HU2 := hid hu2
  obtain ⟨q2, c2, rfl, _⟩ := ints_slice hu2
  clear hu2 HC
  have HC := hid (NextC.e CN chap2P 0 3 _ _ HPX.out (HT.out.on HB4.out) chap2_small chap2_ok ⟨by decide, by decide⟩ ⟨by decide, by decide⟩)
  rw [g8, g9] at HC
  go_wp2_with fail
  refine HC.out.mono ?_
  rintro e w5 ⟨u3, rfl, hu3, hb⟩
  have HB5 := hid (HB4.out.trans (hb.mono HB4.out.size))
  have HU0 := hid (HU0.out.below hb)
  have HU1 := hid (HU1.out.below hb)
  have HU2 := hid (HU2.out.below hb)
  have HPX := hid (HPX.out.below hb)
  have af5 := af4.go hb
  clear hb
  have HU3 := hid hu3
  obtain ⟨q3, c3, rfl, _⟩ := ints_slice hu3
  clear hu3 HC
  have HC := hid (OrderC.e CO chap2P 1 _ _ HPX.out (HT.out.on HB5.out) chap2_small chap2_ok ⟨by decide, by decide⟩)
  rw [g10, g11] at HC
  go_wp2_with fail
  refine HC.out.mono ?_
  rintro e w6 ⟨u4, rfl, hu4, hb⟩
  have HB6 := hid (HB5.out.trans (hb.mono HB5.out.size))
  have HU0 := hid (HU0.out.below hb)
  have HU1 := hid (HU1.out.below hb)
  have HU2 := hid (HU2.out.below hb)
  have HU3 := hid (HU3.out.below hb)
  have HPX := hid (HPX.out.below hb)
  have af6 := af5.go hb
  clear hb
  have HU4 := hid hu4
  obtain ⟨q4, c4, rfl, _⟩ := ints_slice hu4
  clear hu4 HC
  have HPE := hid (no_at w6)
  have HC := hid (ReachC.e CE noP 0 _ _ HPE.out (HT.out.on HB6.out) no_small no_ok ⟨by decide, by decide⟩)
  rw [g12, g13] at HC
  go_wp2_with fail
  refine HC.out.mono ?_
  rintro e w7 ⟨u5, rfl, hu5, hb⟩
  have HB7 := hid (HB6.out.trans (hb.mono HB6.out.size))
  have HU0 := hid (HU0.out.below hb)
  have HU1 := hid (HU1.out.below hb)
  have HU2 := hid (HU2.out.below hb)
  have HU3 := hid (HU3.out.below hb)
  have HU4 := hid (HU4.out.below hb)
  have HPX := hid (HPX.out.below hb)
  have af7 := af6.go hb
  clear hb
  have HU5 := hid hu5
  obtain ⟨q5, c5, rfl, _⟩ := ints_slice hu5
  clear hu5 HC
  have HC := hid (alive_of CN CP CO CR w7 (HT.out.on HB7.out))
  go_wp2_with fail
  refine HC.out.mono ?_
  rintro e w8 ⟨rfl, hb⟩
  have HB8 := hid (HB7.out.trans (hb.mono HB7.out.size))
  have HU0 := hid (HU0.out.below hb)
  have HU1 := hid (HU1.out.below hb)
  have HU2 := hid (HU2.out.below hb)
  have HU3 := hid (HU3.out.below hb)
  have HU4 := hid (HU4.out.below hb)
  have HU5 := hid (HU5.out.below hb)
  have HPX := hid (HPX.out.below hb)
  have af8 := af7.go hb
  clear hb
  clear HC
  have HL := hid (ints_lit w8 [1] 1 #[.int .i64 1] rfl rfl (by decide))
  have hbl := alloc_below w8 (.cells #[.int .i64 1] 3)
  have HQ := hid (sameInts_calls _ _ [1] [1] _ (HU0.out.below hbl) HL.out)
  rw [decide_eq_true rfl] at HQ
  have hbx := HB8.out.trans (hbl.mono HB8.out.size)
  have HU0 := hid (HU0.out.below hbl)
  have HU1 := hid (HU1.out.below hbl)
  have HU2 := hid (HU2.out.below hbl)
  have HU3 := hid (HU3.out.below hbl)
  have HU4 := hid (HU4.out.below hbl)
  have HU5 := hid (HU5.out.below hbl)
  have HPX := hid (HPX.out.below hbl)
  have af8 := af8.go hbl
  have HB8 := hid hbx
  clear hbl hbx
  go_wp2_with fail
  refine HQ.out.mono ?_
  rintro e w9 ⟨rfl, hb⟩
  have HB9 := hid (HB8.out.trans (hb.mono HB8.out.size))
  have HU0 := hid (HU0.out.below hb)
  have HU1 := hid (HU1.out.below hb)
  have HU2 := hid (HU2.out.below hb)
  have HU3 := hid (HU3.out.below hb)
  have HU4 := hid (HU4.out.below hb)
  have HU5 := hid (HU5.out.below hb)
  have HPX := hid (HPX.out.below hb)
  have af9 := af8.go hb
  clear hb
  clear HQ HL
  have HL := hid (ints_lit w9 [0, 1] 2 #[.int .i64 0, .int .i64 1] rfl rfl (by decide))
  have hbl := alloc_below w9 (.cells #[.int .i64 0, .int .i64 1] 3)
  have HQ := hid (sameInts_calls _ _ [0, 1] [0, 1] _ (HU1.out.below hbl) HL.out)
  rw [decide_eq_true rfl] at HQ
  have hbx := HB9.out.trans (hbl.mono HB9.out.size)
  have HU0 := hid (HU0.out.below hbl)
  have HU1 := hid (HU1.out.below hbl)
  have HU2 := hid (HU2.out.below hbl)
  have HU3 := hid (HU3.out.below hbl)
  have HU4 := hid (HU4.out.below hbl)
  have HU5 := hid (HU5.out.below hbl)
  have HPX := hid (HPX.out.below hbl)
  have af9 := af9.go hbl
  have HB9 := hid hbx
  clear hbl hbx
  go_wp2_with fail
  refine HQ.out.mono ?_
  rintro e w10 ⟨rfl, hb⟩
  have HB10 := hid (HB9.out.trans (hb.mono HB9.out.size))
  have HU0 := hid (HU0.out.below hb)
  have HU1 := hid (HU1.out.below hb)
  have HU2 := hid (HU2.out.below hb)
  have HU3 := hid (HU3.out.below hb)
  have HU4 := hid (HU4.out.below hb)
  have HU5 := hid (HU5.out.below hb)
  have HPX := hid (HPX.out.below hb)
  have af10 := af9.go hb
  clear hb
  clear HQ HL
  go_wp2
  go_ret
  exact ⟨rfl, HB10.out⟩
end Go.Proofs.YtimnjkdhcnhkoaaDoor.FyN
namespace Go.Proofs.YtimnjkdhcnhkoaaDoor.ShJ
open Go.RowKit Go.Lib SetP IntO TyM TyP TyB TyC ShM ShP ShA ShB ShC ShE ShQ ShF ShG ShH ShI

set_option maxRecDepth 100000 in
set_option maxHeartbeats 8000000 in
theorem regsP_calls (p : Px) (f : Int) (v : Value) (w : World) (hp : PrAt w v p) (htab : Tab w) (hs : Small p) (hok : POk p) :
    Calls Tryd.prog 39 #[v, .int .i64 f] w (TwoR (if findP p f = 0 then (cntP p f : Int) else 0) (findP p f) w) := by
  have hp0 := hp
  obtain ⟨vt, vf, rfl, ht, hf⟩ := hp
  have hb0 := alloc_below w (.cells #[vt, vf] 25)
  have HC := hid (find_calls p f _ _ (hp0.below hb0) (htab.on hb0) hs hok)
  have HB0 := hid hb0
  by_cases hz : findP p f = 0
  rotate_left
  · rw [if_neg hz]
    have e0 : (findP p f != 0) = true := by simpa using hz
    obtain ⟨ta, tc, rfl⟩ := ht.slice
    obtain ⟨fa, fc, rfl, hfl⟩ := hf.slice
    clear ht hf htab hs hok hp0 hb0
    generalize findP p f = fe at *
    generalize p.types.length = n1 at *
    generalize p.funcs.length = n2 at *
    go_enter Tryd.func39, Tryd.ntmps39
    go_wp2_with fail
    refine HC.out.mono ?_
    rintro e w1 ⟨rfl, hb1⟩
    have hbe := HB0.out.trans (hb1.mono HB0.out.size)
    clear HC hb1 hz
    go_wp2
    go_ret2
    exact ⟨rfl, hbe⟩
  rw [if_pos hz]
  rw [hz] at HC ⊢
  obtain ⟨k, x, h1⟩ := has1 hz
  rw [cnt_at h1]
  obtain ⟨fb, foff, fcap, vb, rfl, hfb, c0, c1, hbl⟩ := fn_at hf h1
  have hle : parOf p.types x.sig + manyB x.blocks ≤ 1000000 := by
    have := par_le hs.parts h1.sig0 h1.sig1
    have := h1.many
    omega
  have HR := hid (fun wx (hx : Below w.heap.size w wx) => regs_calls p.types x vt (.slice (some ⟨fb, foff, none⟩) p.funcs.length fcap) vb wx (ht.below hx) ⟨_, _, _, rfl⟩ h1.sig0 h1.sig1 (hbl.below blkStays hx) hle)
  obtain ⟨ta, tc, rfl⟩ := ht.slice
  obtain ⟨ba, bc, rfl, _⟩ := hbl.slice
  have hkl : (k : Int) < p.funcs.length := by have := h1.lt; omega
  have hk0 : (0 : Int) ≤ k := by omega
  have hke := h1.eq
  have HLT := hid hfb
  have HC0 := hid c0
  have HC1 := hid c1
  clear ht hf htab hs hok hp0 hb0 hz hbl hle h1 c0 c1
  subst hke
  generalize parOf p.types x.sig + manyB x.blocks = cnt at *
  obtain ⟨sg, bl⟩ := x
  simp only at *
  generalize p.types.length = n1 at *
  generalize p.funcs.length = n2 at *
  generalize bl.length = n4 at *
  go_enter Tryd.func39, Tryd.ntmps39
  go_wp2_with fail
  refine HC.out.mono ?_
  rintro e w3 ⟨rfl, hb1⟩
  have hbe := HB0.out.trans (hb1.mono HB0.out.size)
  obtain ⟨f1, _, s1, _⟩ := copyF (alloc_new _ _) hb1 (by simp only [World.size_alloc]; omega)
  have p0 := f1 0 (by simp); have p1 := f1 1 (by simp)
  simp only [List.getElem_toArray, List.getElem_cons_succ, List.getElem_cons_zero] at p0 p1
  have d0 := (hbe.cell (p := ⟨fb, foff + k * 2, none⟩) HLT.out).trans HC0.out
  have d1 := (hbe.cell (p := ⟨fb, foff + k * 2 + 1, none⟩) HLT.out).trans HC1.out
  have s2 := Nat.lt_of_lt_of_le HLT.out hbe.size
  clear HC hb1 f1
  have HBE := hid hbe
  have HBd : Hid (Below w.heap.size w w3.drew) := hbe.drew
  clear hbe
  go_wp2_with fail
  have HOS := hid (old_start w3)
  generalize hn3 : w3.heap.size = n3 at *
  have HN3 := hid hn3
  clear hn3
  go_region_held3 (fun w' => n3 ≤ w'.heap.size ∧ ∀ b o, b < n3 → w'.cell? ⟨b, o, none⟩ = w3.cell? ⟨b, o, none⟩)
    (first | with_reducible exact HOS.out | with_reducible exact old_call (by assumption) (by assumption))
    (first | (go_at_call 51; (with_reducible refine (HR.out w3.drew HBd.out).mono ?_); rintro e w4 ⟨rfl, hb4⟩))
  all_goals
    have hbe := HBd.out.trans (hb4.mono HBd.out.size)
    go_wp2
    go_ret2
    exact ⟨rfl, hbe⟩
end Go.Proofs.YtimnjkdhcnhkoaaDoor.ShJ
namespace Go.Proofs.YtimnjkdhcnhkoaaDoor.FkN
open Go.RowKit Go.Lib SetP IntO TyM TyP TyB TyC ShM ShN ShP ShA ShB ShC ShE ShH ShI ShJ Aft FwM FwC FwP FwQ FwR FwK

/-- ends that are one of the three -/
def Kinds (l : List Bx) : Prop := ∀ i, i < l.length → (endAt l i).kind = 1 ∨ (endAt l i).kind = 2 ∨ (endAt l i).kind = 3
theorem kinds_of {p : Px} {f : Fx} (h : chkP p = 0) (ho : POk p) (hf : f ∈ p.funcs) : Kinds f.blocks := by
  unfold chkP at h
  split at h
  · rename_i hc; exact absurd h hc
  split at h
  · exact absurd h (by decide)
  split at h
  · rename_i hall
    have hmf := List.all_eq_true.1 hall f hf
    unfold mayF at hmf
    split at hmf
    · cases hmf
    split at hmf
    · cases hmf
    split at hmf
    · cases hmf
    intro i hi
    have hm : f.blocks[i] ∈ f.blocks := List.getElem_mem hi
    have hbb := List.all_eq_true.1 hmf _ hm
    unfold mayBl at hbb
    simp only [Bool.and_eq_true] at hbb
    have he := hbb.1
    rw [mayE_eq (ho f hf _ hm).1.1] at he
    have hea : endAt f.blocks i = (f.blocks[i]).en := by unfold endAt; rw [List.getElem?_eq_getElem hi]; rfl
    rw [hea]
    unfold mayER at he
    split at he
    · exact .inl ‹_›
    split at he
    · exact .inr (.inl ‹_›)
    split at he
    · exact .inr (.inr ‹_›)
    · cases he
  · exact absurd h (by decide)
theorem kinds_fn {p : Px} {f : Int} (ho : POk p) (h : findP p f = 0) : Kinds (blsP p f) := by
  obtain ⟨k, x, h1⟩ := has1 h
  rw [fn_blocks h1]
  exact kinds_of (find_zero h).1 ho (List.mem_of_getElem? h1.at_)

set_option maxRecDepth 100000 in
set_option maxHeartbeats 4000000 in
theorem next_to (x : Ex) (ia : Option Addr) (im ic : Nat) (w : World) (hk : x.kind = 1 ∨ x.kind = 2 ∨ x.kind = 3) :
    Calls Tryd.prog 25 #[.agg #[.slice ia im ic, .int .u8 x.kind, .int .i64 x.a, .int .i64 x.to, .int .i64 x.els]] w (LstRN (toE x) w) := by
  obtain ⟨kd, a, tt, els⟩ := x
  have HD : Hid (toE ⟨kd, a, tt, els⟩ = if kd = 1 ∨ (kd = 2 ∧ tt = els) then [tt] else if kd = 2 then [tt, els] else []) := rfl
  generalize toE ⟨kd, a, tt, els⟩ = ans at *
  rcases hk with hk | hk | hk
  · simp only at hk
    subst hk
    rw [if_pos (.inl rfl)] at HD
    have HI := hid (owns_lit_at w ((w.alloc (.cells #[.slice ia im ic, .int .u8 1, .int .i64 a, .int .i64 tt, .int .i64 els] 31)).alloc (.cells #[.int .u8 1, .int .i64 a, .int .i64 tt, .int .i64 els] 28)) [tt] (w.heap.size + 1 + 1) 1 #[.int .i64 tt] (by simp only [World.size_alloc]; omega) (by simp only [World.size_alloc]) rfl rfl (by simp))
    have HB : Hid (Below w.heap.size w (((w.alloc (.cells #[.slice ia im ic, .int .u8 1, .int .i64 a, .int .i64 tt, .int .i64 els] 31)).alloc (.cells #[.int .u8 1, .int .i64 a, .int .i64 tt, .int .i64 els] 28)).alloc (.cells #[.int .i64 tt] 3))) := (((Below.refl _ _).alloc (Nat.le_refl _) _).alloc (by simp) _).alloc (by simp only [World.size_alloc]; omega) _
    go_enter Tryd.func25, Tryd.ntmps25
    go_wp2
    go_ret
    exact ⟨_, rfl, newI_of (n := 1) (by rw [HD.out]; exact HI.out) (by rw [HD.out]; simp), HB.out⟩
  · simp only at hk
    subst hk
    by_cases h3 : tt = els
    · rw [if_pos (.inr ⟨rfl, h3⟩)] at HD
      have e3 : (els != tt) = false := by simpa using h3.symm
      have HI := hid (owns_lit_at w ((w.alloc (.cells #[.slice ia im ic, .int .u8 2, .int .i64 a, .int .i64 tt, .int .i64 els] 31)).alloc (.cells #[.int .u8 2, .int .i64 a, .int .i64 tt, .int .i64 els] 28)) [tt] (w.heap.size + 1 + 1) 1 #[.int .i64 tt] (by simp only [World.size_alloc]; omega) (by simp only [World.size_alloc]) rfl rfl (by simp))
      have HB : Hid (Below w.heap.size w (((w.alloc (.cells #[.slice ia im ic, .int .u8 2, .int .i64 a, .int .i64 tt, .int .i64 els] 31)).alloc (.cells #[.int .u8 2, .int .i64 a, .int .i64 tt, .int .i64 els] 28)).alloc (.cells #[.int .i64 tt] 3))) := (((Below.refl _ _).alloc (Nat.le_refl _) _).alloc (by simp) _).alloc (by simp only [World.size_alloc]; omega) _
      clear h3
      go_enter Tryd.func25, Tryd.ntmps25
      go_wp2
      go_ret
      exact ⟨_, rfl, newI_of (n := 1) (by rw [HD.out]; exact HI.out) (by rw [HD.out]; simp), HB.out⟩
    · rw [if_neg (fun h => h.elim (by decide) fun h => h3 h.2), if_pos rfl] at HD
      have e3 : (els != tt) = true := by simpa using fun h => h3 h.symm
      have HI := hid (owns_lit_at w ((w.alloc (.cells #[.slice ia im ic, .int .u8 2, .int .i64 a, .int .i64 tt, .int .i64 els] 31)).alloc (.cells #[.int .u8 2, .int .i64 a, .int .i64 tt, .int .i64 els] 28)) [tt, els] (w.heap.size + 1 + 1) 2 #[.int .i64 tt, .int .i64 els] (by simp only [World.size_alloc]; omega) (by simp only [World.size_alloc]) rfl rfl (by simp))
      have HB : Hid (Below w.heap.size w (((w.alloc (.cells #[.slice ia im ic, .int .u8 2, .int .i64 a, .int .i64 tt, .int .i64 els] 31)).alloc (.cells #[.int .u8 2, .int .i64 a, .int .i64 tt, .int .i64 els] 28)).alloc (.cells #[.int .i64 tt, .int .i64 els] 3))) := (((Below.refl _ _).alloc (Nat.le_refl _) _).alloc (by simp) _).alloc (by simp only [World.size_alloc]; omega) _
      clear h3
      go_enter Tryd.func25, Tryd.ntmps25
      go_wp2
      go_ret
      exact ⟨_, rfl, newI_of (n := 2) (by rw [HD.out]; exact HI.out) (by rw [HD.out]; simp), HB.out⟩
  · simp only at hk
    subst hk
    rw [if_neg (fun h => h.elim (by decide) fun h => absurd h.1 (by decide)), if_neg (by decide)] at HD
    have HB : Hid (Below w.heap.size w ((w.alloc (.cells #[.slice ia im ic, .int .u8 3, .int .i64 a, .int .i64 tt, .int .i64 els] 31)).alloc (.cells #[.int .u8 3, .int .i64 a, .int .i64 tt, .int .i64 els] 28))) := (((Below.refl _ _).alloc (Nat.le_refl _) _).alloc (by simp) _)
    go_enter Tryd.func25, Tryd.ntmps25
    go_wp2
    go_ret
    exact ⟨_, rfl, by rw [HD.out]; exact newI_none _ _, HB.out⟩

/-- a function's blocks, and an error -/
def BlsE (p : Px) (f b : Int) (w : World) (e : Ending) (w' : World) : Prop := ∃ ao n c, e = .returned (.tuple #[.slice ao n c, .int .i64 (askB p f b)]) ∧ (askB p f b = 0 → BlksAt w' (.slice ao n c) (blsP p f)) ∧ Below w.heap.size w w'
theorem bls_no {p : Px} {f b : Int} {w w' : World} {er : Int} (h : askB p f b = er) (hne : er ≠ 0) (hb : Below w.heap.size w w') : BlsE p f b w (.returned (.tuple #[.slice none 0 0, .int .i64 er])) w' :=
  ⟨none, 0, 0, by rw [h], fun h0 => absurd (h.symm.trans h0) hne, hb⟩
theorem bls_yes {p : Px} {f b : Int} {w w' : World} {ao : Option Addr} {n c : Nat} {l : List Bx} (h : askB p f b = 0) (hl : blsP p f = l) (hbl : BlksAt w' (.slice ao n c) l) (hb : Below w.heap.size w w') : BlsE p f b w (.returned (.tuple #[.slice ao n c, .int .i64 0])) w' :=
  ⟨ao, n, c, by rw [h], fun _ => hl ▸ hbl, hb⟩

/-- one of the functions in memory, in every world behind -/
theorem fn_later {W : World} {vf : Value} {p : Px} {f : Int} {k : Nat} {x : Fx} (h : FnsAt W vf p.funcs) (h1 : Has1 p f k x) : ∃ b off cap ao c, vf = .slice (some ⟨b, off, none⟩) p.funcs.length cap ∧ (∀ w', Aft W w' → w'.cell? ⟨b, off + k * 2, none⟩ = some (.int .i64 x.sig)) ∧ (∀ w', Aft W w' → w'.cell? ⟨b, off + k * 2 + 1, none⟩ = some (.slice ao x.blocks.length c)) ∧ BlksAt W (.slice ao x.blocks.length c) x.blocks := by
  obtain ⟨b, off, cap, vb, rfl, hb, c0, c1, hbl⟩ := fn_at h h1
  obtain ⟨ao, c, rfl, _⟩ := hbl.slice
  exact ⟨b, off, cap, ao, c, rfl, later c0, later c1, hbl⟩

set_option maxRecDepth 100000 in
set_option maxHeartbeats 8000000 in
theorem find_calls (p : Px) (f b : Int) (v : Value) (w : World) (hp : PrAt w v p) (htab : Tab w) (hs : Small p) (hok : POk p) :
    Calls Tryd.prog 24 #[v, .int .i64 f, .int .i64 b] w (BlsE p f b w) := by
  have hp0 := hp
  obtain ⟨vt, vf, rfl, ht, hf⟩ := hp
  obtain ⟨W, hW⟩ : ∃ W, W = w.alloc (.cells #[vt, vf] 25) := ⟨_, rfl⟩
  have hbW : Below w.heap.size w W := by rw [hW]; exact alloc_below _ _
  have k1 : W.heap[w.heap.size]? = some (.cells #[vt, vf] 25 (0, 0)) := by rw [hW]; exact alloc_new _ _
  have hpW := hp0.below hbW
  have HR := hid (regsP_calls p f _ W hpW (htab.on hbW) hs hok)
  have HFN := hid (fun (k : Nat) (x : Fx) (h1 : Has1 p f k x) => fn_later (hf.below fnStays hbW) h1)
  obtain ⟨ta, tc, rfl⟩ := ht.slice
  obtain ⟨fa, fc, rfl, _⟩ := hf.slice
  have l0 := later_cells k1 0 _ rfl; have l1 := later_cells k1 1 _ rfl
  have HBW := hid hbW
  have HW := hid hW
  have h0 := Aft.refl W
  clear ht hf hpW hbW hW k1 hp0 hs hok htab
  by_cases hz : findP p f = 0
  rotate_left
  · have HA := hid (fun w' => bls_no (p := p) (f := f) (b := b) (w := w) (w' := w') (ask_find hz) hz)
    have e0 : (findP p f != 0) = true := by simpa using hz
    clear HFN hz
    rw [if_neg (by simpa using e0)] at HR
    generalize findP p f = fe at *
    generalize p.types.length = n1 at *
    generalize p.funcs.length = n2 at *
    go_enter Tryd.func24, Tryd.ntmps24
    go_wp2_with fail
    rw [← HW.out]
    refine HR.out.mono ?_
    rintro e w1 ⟨rfl, hb1⟩
    have h1 := h0.go hb1
    clear HR hb1
    go_wp2
    go_ret2
    exact HA.out _ (h1.out HBW.out)
  obtain ⟨k, x, h1⟩ := has1 hz
  have HAY := hid (fun h0 h1 => ask_yes (p := p) (f := f) (b := b) hz h0 h1)
  have HAN := hid (fun h => ask_no (p := p) (f := f) (b := b) hz h)
  have HBP := hid (fn_blocks h1)
  rw [fn_blocks h1] at HAY HAN
  obtain ⟨fb, foff, fcap, ao, bc, he, d0, d1, hbl0⟩ := HFN.out k x h1
  cases he
  rw [hz, if_pos rfl] at HR
  generalize (cntP p f : Int) = cnt at *
  have hke := h1.eq
  have hkl := h1.lt
  have hbl := h1.blocks
  have HBL := hid hbl
  have HN := hid (fun (h : ¬ (0 ≤ b ∧ b < x.blocks.length)) w' => bls_no (p := p) (f := f) (b := b) (w := w) (w' := w') (er := 2) (HAN.out h) (by decide))
  have HY := hid (fun h1 h2 w' (ha : Aft W w') => bls_yes (p := p) (f := f) (b := b) (w := w) (w' := w') (HAY.out h1 h2) HBP.out (hbl0.below blkStays ha.below))
  clear HFN hz h1 hbl HAY HAN HBP hbl0
  subst hke
  obtain ⟨sg, bl⟩ := x
  simp only at *
  generalize p.types.length = n1 at *
  generalize p.funcs.length = n2 at *
  generalize bl.length = n3 at *
  by_cases b0 : b < 0
  · have HA := hid (HN.out (by omega))
    clear HN HY
    go_enter Tryd.func24, Tryd.ntmps24
    go_wp2_with fail
    rw [← HW.out]
    refine HR.out.mono ?_
    rintro e w1 ⟨rfl, hb1⟩
    have h1 := h0.go hb1
    have HE := hid (h1.out HBW.out)
    clear HR hb1
    go_wp2
    all_goals first | (exfalso; omega) | (go_ret2; exact HA.out _ HE.out)
  by_cases b1 : (n3 : Int) ≤ b
  · have HA := hid (HN.out (by omega))
    clear HN HY
    go_enter Tryd.func24, Tryd.ntmps24
    go_wp2_with fail
    rw [← HW.out]
    refine HR.out.mono ?_
    rintro e w1 ⟨rfl, hb1⟩
    have h1 := h0.go hb1
    have HE := hid (h1.out HBW.out)
    clear HR hb1
    go_wp2
    all_goals first | (exfalso; omega) | (go_ret2; exact HA.out _ HE.out)
  · have HA := hid (HY.out (by omega) (by omega))
    clear HN HY
    go_enter Tryd.func24, Tryd.ntmps24
    go_wp2_with fail
    rw [← HW.out]
    refine HR.out.mono ?_
    rintro e w1 ⟨rfl, hb1⟩
    have h1 := h0.go hb1
    have HE := hid (h1.out HBW.out)
    have HH1 := hid h1
    clear HR hb1
    go_wp2
    all_goals first | (exfalso; omega) | (go_ret2; exact HA.out _ HH1.out HE.out)
/-- where a function's blocks are found -/
def BlsY (l : List Bx) (w : World) (e : Ending) (w' : World) : Prop := ∃ ao c, e = .returned (.tuple #[.slice ao l.length c, .int .i64 0]) ∧ BlksAt w' (.slice ao l.length c) l ∧ Below w.heap.size w w'
theorem find_yes (p : Px) (f b : Int) (v : Value) (w : World) (hp : PrAt w v p) (htab : Tab w) (hs : Small p) (hok : POk p) (hz : askB p f b = 0) :
    Calls Tryd.prog 24 #[v, .int .i64 f, .int .i64 b] w (BlsY (blsP p f) w) := by
  refine (find_calls p f b v w hp htab hs hok).mono ?_
  rintro e w' ⟨ao, n, c, rfl, hbl, hb⟩
  have h1 := hbl hz
  obtain rfl := RowAt.len h1
  exact ⟨ao, c, by rw [hz], h1, hb⟩
/-- where they aren't -/
def BlsN (er : Int) (w : World) (e : Ending) (w' : World) : Prop := ∃ ao n c, e = .returned (.tuple #[.slice ao n c, .int .i64 er]) ∧ Below w.heap.size w w'
theorem find_no (p : Px) (f b : Int) (v : Value) (w : World) (hp : PrAt w v p) (htab : Tab w) (hs : Small p) (hok : POk p) :
    Calls Tryd.prog 24 #[v, .int .i64 f, .int .i64 b] w (BlsN (askB p f b) w) := by
  refine (find_calls p f b v w hp htab hs hok).mono ?_
  rintro e w' ⟨ao, n, c, rfl, _, hb⟩
  exact ⟨ao, n, c, rfl, hb⟩
end Go.Proofs.YtimnjkdhcnhkoaaDoor.FkN
namespace Go.Proofs.YtimnjkdhcnhkoaaDoor.FkW
open Go.RowKit Go.Lib Go.Maps SetP IntO TyM TyP TyB ShM ShP ShB ShE Aft Fresh FwM FwC FwP FwQ FwR FwO FkP FkN FkS

/-- what is asked of through, with so much fuel -/
def ThrC (W0 : World) (vb : Value) (l : List Bx) (p bm : Nat) (f : Nat) : Prop := ∀ (b : Nat) (s : List Nat × List Nat) (vo : Value) (w : World), St W0 vb p bm vo s w → Inv l.length s → b < l.length → b ∉ s.1 → l.length + 1 ≤ f + s.1.length →
  Calls Tryd.prog 41 #[.pointer (some ⟨p, 0, none⟩), .int .i64 (b : Int)] w (WkR W0 vb p bm (thr (succ l) f b s) vo w)

set_option maxRecDepth 100000 in
set_option maxHeartbeats 8000000 in
theorem each_of (W0 : World) (vb : Value) (l : List Bx) (p bm f : Nat) (hlow : Low l) (hlen : l.length ≤ 1000) (CT : ThrC W0 vb l p bm f) (cs : List Nat) (hcs : ∀ c ∈ cs, c < l.length) (s : List Nat × List Nat) (vo v : Value) (w : World)
    (hst : St W0 vb p bm vo s w) (hi : Inv l.length s) (hf : l.length + 1 ≤ f + s.1.length) (hv : IntsAt w v (ints cs)) (ha : Away3 p bm vo w v) (hcl : cs.length ≤ 1000) :
    Calls Tryd.prog 40 #[.pointer (some ⟨p, 0, none⟩), v, .func (.func 41) #[] #[]] w (WkR W0 vb p bm (each (succ l) f cs s) vo w) := by
  have HST := hid hst
  have HV := hid hv
  have HA := hid ha
  have HCL := hid hcl
  have HCS := hid hcs
  have HRES := hid (fun (k : Nat) => each_res (succ_lt hlow) (cs.take k) s hi (fun c hc => hcs c (List.mem_of_mem_take hc)) hf)
  have HTK := hid (fun (k : Nat) (h : k < cs.length) => each_take (t := succ l) (f := f) (s := s) h)
  have HF := hid (fun (k : Nat) => Nat.le_trans hf (Nat.add_le_add_left (HRES.out k).len f))
  have HALL : Hid (each (succ l) f (cs.take cs.length) s = each (succ l) f cs s) := by show _ = _; rw [List.take_length]
  have HZ : Hid (each (succ l) f (cs.take 0) s = s) := rfl
  have HLEN := hid hlen
  have HCT := hid CT
  obtain ⟨va, vc, rfl, _⟩ := ints_slice hv
  rw [ints_length] at HV HA ⊢
  clear hst hv ha hcl hi hf hcs hlow CT hlen
  unfold ThrC at HCT
  generalize succ l = t at *
  generalize l.length = n at *
  go_enter Tryd.func40, Tryd.ntmps40
  go_wp2_with fail
  go_loopg [12] cs.length (fun gk i wr => ∃ (k : Nat) (vo1 : Value), k + gk = cs.length ∧ i = .int .i64 k ∧ St W0 vb p bm vo1 (each t f (cs.take k) s) wr ∧ Keeps3 p bm vo w wr ∧ NewRow w vo vo1 ∧ IntsAt wr (.slice va cs.length vc) (ints cs) ∧ Away3 p bm vo1 wr (.slice va cs.length vc))
  case atStart => exact ⟨0, vo, by omega, rfl, HZ.out.symm ▸ HST.out, Keeps3.refl _ _ _ _, NewRow.refl _ _, HV.out, HA.out⟩
  case round =>
    obtain ⟨k, vo1, hk, rfl, hst, hkp, hnr, hv, ha⟩ := hrel
    have HK := hid hk
    have HST1 := hid hst
    have HKP := hid hkp
    have HNR := hid hnr
    have HV1 := hid hv
    have HA1 := hid ha
    clear HST HV HA hk
    by_cases hlt : k < cs.length
    · have HLT := hid hlt
      have hkl : (k : Int) < (cs.length : Int) := by omega
      have hkb : k ≤ 9223372036854775806 := by have := HCL.out; omega
      obtain ⟨b2, o2, rfl, _, c2⟩ := TyP.ints_at hv k (by rw [ints_length]; exact hlt)
      rw [nums_at hlt] at c2
      obtain ⟨_, q1, _, _⟩ := hst.cell
      obtain ⟨D, hown, hhas⟩ := hst.map
      have HR := hid (HRES.out k)
      have HSN := hid (HTK.out k hlt)
      have HCN : Hid (cs[k] < n) := HCS.out _ (List.getElem_mem hlt)
      have HFK := hid (HF.out k)
      have hkey := key_int (n := cs[k]) (by have := HCN.out; have := HLEN.out; omega)
      have HHAS := hid (hhas cs[k])
      clear hhas hst hkp hnr hv ha HRES HTK HCS HF
      generalize each t f (cs.take k) s = s1 at *
      generalize cs[k] = c at *
      by_cases hin : c ∈ s1.1
      · have hd : Maps.has D (Lit.int .i64 (c : Int)) = true := HHAS.out.trans (decide_eq_true hin)
        have HS2 := hid (HST1.out.go (alloc_below wr (.cells #[] 96)))
        rw [thr_old hin] at HSN
        have HK2 := hid (HKP.out.trans HNR.out (Keeps3.below (p := p) (bm := bm) (vo := vo1) (alloc_below wr (.cells #[] 96))))
        have HB := hid (alloc_below wr (.cells #[] 96))
        clear hin
        go_wp2_with (at_lookup; refine wpList_lookup_own_unit _ rfl _ _ 78 rfl 3 96 law_int Tryd.underlying78 (zero_unit _) bm _ D rfl hown _ _ rfl hkey ?_)
        go_roundg (gk - 1)
        case measure => have := HK.out; have := HLT.out; omega
        case rel => exact ⟨k + 1, vo1, by have := HK.out; have := HLT.out; omega, by go_num, by rw [HSN.out]; exact HS2.out, HK2.out, HNR.out, HV1.out.below HB.out, HA1.out.keep (Keeps3.below HB.out) (NewRow.refl _ _)⟩
      · have hd : Maps.has D (Lit.int .i64 (c : Int)) = false := HHAS.out.trans (decide_eq_false hin)
        have hb0 := alloc_below wr (.cells #[] 96)
        have HC := hid (HCT.out c s1 vo1 _ (HST1.out.go hb0) HR.out.inv HCN.out hin HFK.out)
        have HK1 := hid (HKP.out.trans HNR.out (Keeps3.below (p := p) (bm := bm) (vo := vo1) hb0))
        have HV2 := hid (HV1.out.below hb0)
        have HA2 := hid (HA1.out.keep (Keeps3.below hb0) (NewRow.refl _ _))
        have HN1 : Hid (NewRow w vo vo1) := HNR
        clear hin hb0 HHAS HR HFK HCN HST1 HKP HV1 HA1
        go_wp2_with (first | (at_lookup; refine wpList_lookup_own_unit _ rfl _ _ 78 rfl 3 96 law_int Tryd.underlying78 (zero_unit _) bm _ D rfl hown _ _ rfl hkey ?_) | ((with_reducible refine HC.out.mono ?_); rintro e w2 ⟨rfl, vo2, hst2, hkp2, hnr2⟩))
        have HS2 := hid hst2
        have HK2 := hid (HK1.out.trans HN1.out hkp2)
        have HV3 := hid (HA2.out.ints hkp2 HV2.out)
        have HA3 := hid (HA2.out.keep hkp2 hnr2)
        have HN2 := hid (HN1.out.trans HK1.out.1 hnr2)
        clear hst2 hkp2 hnr2
        go_wp2
        go_roundg (gk - 1)
        case measure => have := HK.out; have := HLT.out; omega
        case rel => exact ⟨k + 1, vo2, by have := HK.out; have := HLT.out; omega, by go_num, by rw [HSN.out]; exact HS2.out, HK2.out, HN2.out, HV3.out, HA3.out⟩
    · obtain rfl : k = cs.length := by have := HK.out; omega
      clear hst hkp hnr hv ha hlt
      rw [HALL.out] at HST1
      go_wp2
      go_end0
      exact ⟨rfl, vo1, HST1.out, HKP.out, HNR.out⟩
/-- a block by value, for the walk that reads it -/
theorem blk_cells {w : World} {ao : Option Addr} {n c : Nat} {l : List Bx} (h : BlksAt w (.slice ao n c) l) {b : Nat} (hb : b < l.length) : ∃ g off ia im ic, ao = some ⟨g, off, none⟩ ∧ w.cell? ⟨g, off + b * 5, none⟩ = some (.slice ia im ic) ∧ w.cell? ⟨g, off + b * 5 + 1, none⟩ = some (.int .u8 (endAt l b).kind) ∧ w.cell? ⟨g, off + b * 5 + 2, none⟩ = some (.int .i64 (endAt l b).a) ∧ w.cell? ⟨g, off + b * 5 + 3, none⟩ = some (.int .i64 (endAt l b).to) ∧ w.cell? ⟨g, off + b * 5 + 4, none⟩ = some (.int .i64 (endAt l b).els) := by
  obtain ⟨g, off, rfl, hlt, vi, c0, c1, c2, c3, c4, hins⟩ := h.at b hb
  have he : endAt l b = l[b].en := by unfold endAt; rw [List.getElem?_eq_getElem hb]; rfl
  obtain ⟨ia, ic, rfl, _⟩ := hins.slice
  rw [he]
  exact ⟨g, off, ia, _, ic, rfl, c0, c1, c2, c3, c4⟩

set_option maxRecDepth 100000 in
set_option maxHeartbeats 8000000 in
theorem through_of (W0 : World) (vb : Value) (l : List Bx) (p bm f : Nat) (hlow : Low l) (hkinds : Kinds l) (hlen : l.length ≤ 1000) (hbl : BlksAt W0 vb l) (CT : ThrC W0 vb l p bm f) : ThrC W0 vb l p bm (f + 1) := by
  intro b s vo w hst hi hb hm hf
  rw [thr_new hm]
  obtain ⟨ba, bc, rfl, _⟩ := hbl.slice
  obtain ⟨q0, q1, _, _⟩ := hst.cell
  obtain ⟨D, hown, hhas⟩ := hst.map
  have HBEG := hid (fun (w1 : World) (d : DataW Unit) ho hg => hst.begin (w1 := w1) (b := b) (d := d) hown hhas ho hg)
  have HBC := hid (fun (w1 : World) (h : Below W0.heap.size W0 w1) => blk_cells (hbl.below blkStays h) hb)
  have HE := hid (fun (u : Value) (w2 : World) (h1 : St W0 (.slice ba l.length bc) p bm vo (s.1 ++ [b], s.2) w2) (h2 : IntsAt w2 u (ints (succ l b))) (h3 : Away3 p bm vo w2 u) => each_of W0 _ l p bm f hlow hlen CT (succ l b) (fun c hc => succ_lt hlow b hb c hc) (s.1 ++ [b], s.2) vo u w2 h1 (inv_begin hi hb hm) (by simp only [List.length_append, List.length_singleton]; omega) h2 h3 (by have := succ_len l b; omega))
  have HNX := hid (fun (ia : Option Addr) (im ic : Nat) (w1 : World) => next_to (endAt l b) ia im ic w1 (hkinds b hb))
  have HIS := hid (ints_succ hlow hb)
  have HSL := hid ((each_res (f := f) (succ_lt hlow) (succ l b) (s.1 ++ [b], s.2) (inv_begin hi hb hm) (fun c hc => succ_lt hlow b hb c hc) (by simp only [List.length_append, List.length_singleton]; omega)).inv)
  have HL1 := hid (inv_len hi)
  have hkey := key_int (n := b) (by omega)
  have hml : s.1.length < maxLen := by unfold maxLen; have := HL1.out.1; omega
  have HLEN := hid hlen
  have hbn : (b : Int) < (l.length : Int) := by omega
  clear hst hi hm hf hlow hkinds hlen hbl CT hhas
  generalize each (succ l) f (succ l b) (s.1 ++ [b], s.2) = s2 at *
  generalize succ l b = tl at *
  generalize endAt l b = x at *
  obtain ⟨ek, ea, et, ee⟩ := x
  simp only at *
  generalize toE ⟨ek, ea, et, ee⟩ = tx at *
  generalize l.length = n at *
  go_enter Tryd.func41, Tryd.ntmps41
  go_wp2_with (at_mapUpdate; refine wpList_mapUpdate_own _ rfl _ _ _ 78 rfl 3 96 law_int Tryd.underlying78 (unitElem (H := Unit)) bm s.1.length D rfl hown hml _ _ _ rfl rfl hkey _ [] unitElem_mk ?_)
  intro w1 hown1 hgrow1
  obtain ⟨hst1, hk1⟩ := HBEG.out w1 _ hown1 hgrow1
  obtain ⟨g, off, ia, im, ic, rfl, c0, c1, c2, c3, c4⟩ := HBC.out w1 hst1.bel
  obtain ⟨r0, _, _, _⟩ := hst1.cell
  have HST1 := hid hst1
  have HK1 := hid hk1
  clear hst1 hk1 hown hown1 hgrow1 HBEG HBC q0 q1 hkey
  go_wp2_with fail
  refine (HNX.out ia im ic w1).mono ?_
  rintro e w2 ⟨u, rfl, hu, hb2⟩
  have HST2 := hid (HST1.out.go hb2)
  have HA2 := hid (away_new HST1.out hu)
  have HK2 := hid (HK1.out.trans (NewRow.refl _ _) (Keeps3.below (p := p) (bm := bm) (vo := vo) hb2))
  rw [← HIS.out] at hu
  have HC := hid (HE.out u w2 HST2.out hu.1 HA2.out)
  clear HE HNX hu hb2 HST1 HK1 HA2 c0 c1 c2 c3 c4 r0
  go_wp2_with fail
  refine HC.out.mono ?_
  rintro e w3 ⟨rfl, vo3, hst3, hk3, hnr3⟩
  obtain ⟨oa, oc, rfl⟩ := own_slice hst3.row
  have HK3 := hid (HK2.out.trans (NewRow.refl _ _) hk3)
  have HN3 := hid (NewRow.trans (NewRow.refl w vo) HK2.out.1 hnr3)
  have HST3 := hid hst3
  have HO3 := hid (hst3.row.alloc (.cells #[.int .i64 b] 3))
  have HI3 := hid (ints_one (w := w3.alloc (.cells #[.int .i64 b] 3)) (b := w3.heap.size) (n := b) (cell_new _ _ _ _ rfl) (size_new _ _ _ rfl))
  have hsz : W0.heap.size ≤ (w3.alloc (.cells #[.int .i64 b] 3)).heap.size := Nat.le_trans hst3.bel.size (alloc_below _ _).size
  obtain ⟨_, _, q2, _⟩ := hst3.cell
  have HL3 := hid (inv_len HSL.out).2
  clear hst3 hk3 hnr3 HC HST2 HK2
  have hn3 : s2.2.length ≤ 100000 := by have := HL3.out; have := HLEN.out; omega
  go_wp2_with (at_builtin; refine wpList_append_intsN rfl (.tmp 24) (.tmp 26) rfl W0.heap.size (.slice oa s2.2.length oc) rfl s2.2.length (intVals (ints s2.2)) HO3.out hn3 (.slice (some ⟨w3.heap.size, 0, none⟩) 1 1) [(b : Int)] rfl HI3.out (by simp) hsz ?_)
  intro v7 w7 hown7 hgr7 hnr7
  obtain ⟨xa, xc, rfl⟩ := own_slice hown7
  obtain ⟨HS7, HK7, HN7⟩ := HST3.out.put hown7 hgr7 hnr7
  have HS8 := hid HS7
  have HK8 := hid (HK3.out.trans HN3.out HK7)
  have HN8 := hid (HN3.out.trans HK3.out.1 HN7)
  have f7 : w7.cell? ⟨p, 2, none⟩ = some (.slice oa s2.2.length oc) := by
    have h1 := q2
    unfold World.cell? at h1 ⊢
    rw [hgr7.block p (by simp only [World.size_alloc]; have := HST3.out.lt; omega) (fun e => HST3.out.row_p e.symm), Below.heap_alloc _ _ _ HST3.out.lt]
    exact h1
  have f8 : w7.frozen? ⟨p, 2, none⟩ = false := by
    have h1 := HST3.out.cell.2.2.2 2
    unfold World.frozen? at h1 ⊢
    rw [hgr7.block p (by simp only [World.size_alloc]; have := HST3.out.lt; omega) (fun e => HST3.out.row_p e.symm), Below.heap_alloc _ _ _ HST3.out.lt]
    exact h1
  clear HS7 HK7 HN7 hown7 hgr7 hnr7 HK3 HN3 HO3 HI3 hsz HST3 q2
  go_wp2
  go_end0
  exact ⟨rfl, _, HS8.out, HK8.out, HN8.out⟩

theorem through_all (W0 : World) (vb : Value) (l : List Bx) (p bm : Nat) (hlow : Low l) (hkinds : Kinds l) (hlen : l.length ≤ 1000) (hbl : BlksAt W0 vb l) : ∀ f, ThrC W0 vb l p bm f
  | 0 => by
    intro b s vo w hst hi hb hm hf
    have := (inv_len hi).1
    omega
  | f + 1 => through_of W0 vb l p bm f hlow hkinds hlen hbl (through_all W0 vb l p bm hlow hkinds hlen hbl f)

set_option maxRecDepth 100000 in
set_option maxHeartbeats 8000000 in
theorem behind_calls (l : List Bx) (cs : List Nat) (vb v : Value) (w : World) (hlow : Low l) (hkinds : Kinds l) (hlen : l.length ≤ 1000) (hbl : BlksAt w vb l) (hcs : ∀ c ∈ cs, c < l.length) (hcl : cs.length ≤ 1000) (hv : IntsAt w v (ints cs)) :
    Calls Tryd.prog 26 #[vb, v] w fun e w' => ∃ u, e = .returned u ∧ w'.ownsRow w.heap.size 3 1 u (behindL l cs).length (intVals (ints (behindL l cs))) ∧ Below w.heap.size w w' := by
  have hmm := @run_makeMap Tryd.prog
  obtain ⟨ba, bc, rfl, _⟩ := hbl.slice
  obtain ⟨W, hW⟩ : ∃ W, W = (w.alloc (.map #[] 0)).alloc (.cells #[.slice ba l.length bc, .map (some w.heap.size), .slice none 0 0] 80) := ⟨_, rfl⟩
  have hbW : Below w.heap.size w W := by rw [hW]; exact ((Below.refl _ _).alloc (Nat.le_refl _) _).alloc (by simp) _
  have hst : St w (.slice ba l.length bc) (w.heap.size + 1) w.heap.size (.slice none 0 0) ([], []) W := by
    refine ⟨?_, ?_, World.ownsRow_nil _ _ _ _, hbW, by omega, by omega⟩
    · rw [hW]
      have := TyD.alloc_new (w.alloc (.map #[] 0)) (.cells #[.slice ba l.length bc, .map (some w.heap.size), .slice none 0 0] 80)
      rwa [World.size_alloc] at this
    · have h1 := mapAt_made w
      rw [hW]
      exact h1.kept (Below.heap_alloc _ _ _ (by simp))
  have hiv := hv.below hbW
  have haw : Away3 (w.heap.size + 1) w.heap.size (.slice none 0 0) W v := by
    intro g off n c e hn
    obtain ⟨ao, cap, rfl, _, hm, _⟩ := hv
    cases e
    obtain ⟨b, o, hb, hlt, _⟩ := hm hn
    cases hb
    exact ⟨Nat.lt_of_lt_of_le hlt hbW.size, by omega, by omega, fun e => by cases e⟩
  have HC := hid (each_of w (.slice ba l.length bc) l (w.heap.size + 1) w.heap.size (l.length + 1) hlow hlen (through_all w _ l _ _ hlow hkinds hlen hbl _) cs hcs ([], []) (.slice none 0 0) v W hst (inv_none _) (by simp) hiv haw hcl)
  have HB : Hid (behindL l cs = (each (succ l) (l.length + 1) cs ([], [])).2) := rfl
  have HW := hid hW
  clear hlow hkinds hlen hbl hcs hcl hv hbW hst hiv haw hW
  generalize behindL l cs = bl at *
  generalize each (succ l) (l.length + 1) cs ([], []) = s at *
  go_enter Tryd.func26, Tryd.ntmps26
  go_wp2_with fail
  rw [← HW.out]
  refine HC.out.mono ?_
  rintro e w1 ⟨rfl, vo, hst, _, _⟩
  obtain ⟨_, _, q2, _⟩ := hst.cell
  obtain ⟨oa, oc, rfl⟩ := own_slice hst.row
  have HO := hid hst.row
  have HE := hid hst.bel
  clear HC hst
  go_wp2
  go_ret
  exact ⟨_, rfl, by rw [HB.out]; exact HO.out, HE.out⟩
end Go.Proofs.YtimnjkdhcnhkoaaDoor.FkW
