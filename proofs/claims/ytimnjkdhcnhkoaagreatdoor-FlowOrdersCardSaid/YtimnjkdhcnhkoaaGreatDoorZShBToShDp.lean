/- Walks over shape.Uses and shape.Ends, and the reference's two, HasA, HasArgs, Answers, Uses, Ends. Walks over slices.IndexFunc and slices.ContainsFunc at instructions and blocks. Structs compared: ends, and what an instruction, or an end, has. Ends compared field by field; two blocks made. -/
import Derived.Test.YtimnjkdhcnhkoaaGreatDoorZShA
import Derived.Test.YtimnjkdhcnhkoaaGreatDoorZFwRToTyRT
import Derived.Laws.StructEq
namespace Go.Proofs.YtimnjkdhcnhkoaaGreatDoor.ShB
open Go.RowKit Go.Lib SetP IntO TyM TyP TyB ShM ShP ShA

/-- what is known of a block behind a call -/
theorem copyF {W w1 : World} {b B : Nat} {cs : Array Value} {ty : TypeId} (hw : W.heap[b]? = some (.cells cs ty (0, 0))) (hb : Below B W w1) (hB : b < B) :
    (∀ i (h : i < cs.size), w1.cell? ⟨b, i, none⟩ = some cs[i]) ∧ (∀ i, w1.frozen? ⟨b, i, none⟩ = false) ∧ b < w1.heap.size ∧ w1.heap[b]? = some (.cells cs ty (0, 0)) := by
  have hk := (hb.block b hB).trans hw
  refine ⟨fun i h => ?_, fun i => ?_, (Array.getElem?_eq_some_iff.1 hk).1, hk⟩
  · unfold World.cell?; rw [hk]; simp [h]
  · unfold World.frozen?; rw [hk]; simp
theorem alloc_new (w : World) (o : Obj) : (w.alloc o).heap[w.heap.size]? = some o := by
  show (w.heap.push o)[w.heap.size]? = some o
  simp
theorem alloc_old {w : World} {b : Nat} {o : Obj} (h : w.heap[b]? = some o) (o' : Obj) : (w.alloc o').heap[b]? = some o :=
  (Below.heap_alloc _ _ _ (Array.getElem?_eq_some_iff.1 h).1).trans h
theorem own_grown {B : Nat} {w0 w w' : World} {u : Value} {m : Nat} {xs : List Value} {ty : TypeId} {s : Nat} (hb : Below B w0 w) (ho : w.ownsRow B ty s u m xs) (hg : w.grownBy w' u.ownBlock) (hB : B ≤ w.heap.size) : Below B w0 w' :=
  hb.grown hg hB fun g hgg => (ho.lt g hgg).1
theorem cell_new (w : World) (v : Value) (t : TypeId) (n : Nat) (h : w.heap.size = n) : (w.alloc (.cells #[v] t)).cell? ⟨n, 0, none⟩ = some v := by subst h; simp
theorem size_new (w : World) (o : Obj) (n : Nat) (h : w.heap.size = n) : n < (w.alloc o).heap.size := by subst h; simp
theorem own_slice {w : World} {B m s : Nat} {e : TypeId} {v : Value} {xs : List Value} (h : w.ownsRow B e s v m xs) : ∃ a c, v = .slice a m c := by
  rcases h.2 with ⟨rfl, h0⟩ | ⟨_, _, _, rfl, _⟩
  · rw [h0]; exact ⟨_, _, rfl⟩
  · exact ⟨_, _, rfl⟩

/-- the registers that an instruction reads, by three tests -/
def usesL (A B M : Bool) (a b : Int) (l : List Int) : List Int := (if A = true then [a] else []) ++ ((if B = true then [b] else []) ++ (if M = true then l else []))
theorem uses_tells (x : Ix) (h0 : 0 ≤ x.op) : usesOf x = usesL (decide ((hasOf x.op).a = 3)) (decide ((hasOf x.op).b = 3)) (decide (0 < (hasOf x.op).most)) x.a x.b x.args := by
  obtain ⟨_, h1, h2, h3⟩ := has_tells h0
  unfold usesL
  rw [h1, h2, h3]; rfl


theorem op_list {op : Int} (h0 : 0 ≤ op) : op = 0 ∨ op = 1 ∨ op = 2 ∨ op = 3 ∨ op = 4 ∨ op = 5 ∨ op = 6 ∨ op = 7 ∨ op = 8 ∨ op = 9 ∨ op = 10 ∨ op = 11 ∨ op = 12 ∨ op = 13 ∨ op = 14 ∨ op = 15 ∨ op = 16 ∨ op = 17 ∨ op = 18 ∨ op = 19 ∨ op = 20 ∨ op = 21 ∨ op = 22 ∨ 23 ≤ op := by omega
theorem over_two {op : Int} (h : 23 ≤ op) : twoB op = false := by unfold twoB; simp; omega
theorem over_hasA {op : Int} (h : 23 ≤ op) : hasAB op = false := by unfold hasAB; rw [over_two h]; simp; omega
theorem over_args {op : Int} (h : 23 ≤ op) : argsB op = false := by unfold argsB; simp; omega
theorem over_answers {op : Int} (h : 23 ≤ op) : answersB op = false := by unfold answersB; simp; omega
/-- a bool, and nothing more -/
def PureR (b : Bool) (w : World) (e : Ending) (w' : World) : Prop := e = .returned (.bool b) ∧ w = w'
end Go.Proofs.YtimnjkdhcnhkoaaGreatDoor.ShB
namespace Go.Proofs.YtimnjkdhcnhkoaaGreatDoor.ShC
open Go.RowKit Go.Lib SetP IntO TyM TyP TyB ShM ShP ShA ShB

/-- an index, or -1 -/
def IdxG {α : Type} (p : α → Bool) (l : List α) (w : World) (e : Ending) (w' : World) : Prop := ∃ i : Int, e = .returned (.int .i64 i) ∧ decide (0 ≤ i) = l.any p ∧ -1 ≤ i ∧ Below w.heap.size w w'
theorem anyG_split {α : Type} {p : α → Bool} {l : List α} {k : Nat} (hk : k < l.length) (hp : p l[k] = true) : l.any p = true :=
  List.any_eq_true.2 ⟨l[k], List.getElem_mem hk, hp⟩
theorem noneG_succ {α : Type} {p : α → Bool} {l : List α} {k : Nat} (hk : k < l.length) (h : (l.take k).any p = false) (hp : p l[k] = false) : (l.take (k + 1)).any p = false := by
  rw [List.take_succ_eq_append_getElem hk, List.any_append, h]
  simp [hp]

set_option maxRecDepth 100000 in
set_option maxHeartbeats 2000000 in
theorem indexI_calls (g : FuncId) (he : Enters Tryz.prog g) (cb : Nat) (p : Ix → Bool) (v : Value) (l : List Ix) (w : World) (hl : InsAt w v l)
    (hg : ∀ x ∈ l, ∀ va vf wx, Below w.heap.size w wx → IntsAt wx va x.args → IntsAt wx vf x.frm → Calls Tryz.prog g #[ixV x va vf, .pointer (some ⟨cb, 0, none⟩)] wx (BoolR (p x) wx)) :
    Calls Tryz.prog 92 #[v, .func (.func g) #[] #[.pointer (some ⟨cb, 0, none⟩)]] w (IdxG p l w) := by
  have he' : ∀ args w, (callFunc g args).run Tryz.prog w = .ok (.enter g args) w := he
  have HG := hid hg
  have HL := hid hl
  obtain ⟨ao, cap, rfl, hlen⟩ := hl.slice
  clear hg hl
  go_enter Tryz.func92, Tryz.ntmps92
  go_wp2
  go_loopg [8] l.length (fun gk i wr => ∃ k : Nat, k + gk = l.length ∧ i = .int .i64 k ∧ Below w.heap.size w wr ∧ (l.take k).any p = false)
  case atStart => exact ⟨0, by omega, rfl, Below.refl _ _, rfl⟩
  case round =>
    obtain ⟨k, hk, rfl, hbe, hno⟩ := hrel
    have HK := hid hk
    have HNO := hid hno
    clear hno
    by_cases hlt : k < l.length
    · obtain ⟨b, off, rfl, hbs, va, vf, c0, c1, c2, c3, c4, c5, c6, ha, hf⟩ := (HL.out.below insStays hbe).at k hlt
      have HC := hid (HG.out _ (List.getElem_mem hlt) va vf wr hbe ha hf)
      have HS := hid (noneG_succ (p := p) hlt HNO.out)
      have HY := hid (anyG_split (p := p) hlt)
      clear hk ha hf
      generalize l[k] = n at *
      skip
      cases hp : p n with
      | true =>
        rw [hp] at HC
        have HP := hid hp
        clear hp
        go_wp2_with fail
        refine HC.out.mono ?_
        rintro e w1 ⟨rfl, hb1⟩
        have hbe1 := hbe.trans (hb1.mono hbe.size)
        clear hbe hb1 HC
        go_wp2
        go_ret
        exact ⟨k, rfl, by rw [HY.out HP.out]; simp, by omega, hbe1⟩
      | false =>
        rw [hp] at HC
        have HP := hid hp
        clear hp
        go_wp2_with fail
        refine HC.out.mono ?_
        rintro e w1 ⟨rfl, hb1⟩
        have hbe1 := hbe.trans (hb1.mono hbe.size)
        clear hbe hb1 HC
        go_wp2
        go_roundg (gk - 1)
        case measure => have := HK.out; omega
        case rel => exact ⟨k + 1, by have := HK.out; omega, by go_num, hbe1, HS.out HP.out⟩
    · obtain rfl : k = l.length := by omega
      clear hk
      go_wp2
      go_ret
      exact ⟨-1, rfl, by have := HNO.out; rw [List.take_length] at this; rw [this]; rfl, by omega, hbe⟩

theorem containsI_calls (g : FuncId) (he : Enters Tryz.prog g) (cb : Nat) (p : Ix → Bool) (v : Value) (l : List Ix) (w : World) (hl : InsAt w v l)
    (hg : ∀ x ∈ l, ∀ va vf wx, Below w.heap.size w wx → IntsAt wx va x.args → IntsAt wx vf x.frm → Calls Tryz.prog g #[ixV x va vf, .pointer (some ⟨cb, 0, none⟩)] wx (BoolR (p x) wx)) :
    Calls Tryz.prog 77 #[v, .func (.func g) #[] #[.pointer (some ⟨cb, 0, none⟩)]] w (BoolR (l.any p) w) := by
  have HC := hid (indexI_calls g he cb p v l w hl hg)
  clear hg hl he
  go_enter Tryz.func77, Tryz.ntmps77
  go_wp2_with fail
  refine HC.out.mono ?_
  rintro e w1 ⟨i, rfl, hi, hm, hb1⟩
  have HI := hid hi
  clear hi
  go_wp2
  all_goals
    go_ret
    refine ⟨?_, hb1⟩
    rw [← HI.out]
    first | rfl | (congr 2; simp; omega)

set_option maxRecDepth 100000 in
set_option maxHeartbeats 2000000 in
theorem indexB_calls (g : FuncId) (he : Enters Tryz.prog g) (cb : Nat) (p : Bx → Bool) (v : Value) (l : List Bx) (w : World) (hl : BlksAt w v l)
    (hg : ∀ x ∈ l, ∀ vi wx, Below w.heap.size w wx → InsAt wx vi x.ins → Calls Tryz.prog g #[bxV x vi, .pointer (some ⟨cb, 0, none⟩)] wx (BoolR (p x) wx)) :
    Calls Tryz.prog 89 #[v, .func (.func g) #[] #[.pointer (some ⟨cb, 0, none⟩)]] w (IdxG p l w) := by
  have he' : ∀ args w, (callFunc g args).run Tryz.prog w = .ok (.enter g args) w := he
  have HG := hid hg
  have HL := hid hl
  obtain ⟨ao, cap, rfl, hlen⟩ := hl.slice
  clear hg hl
  go_enter Tryz.func89, Tryz.ntmps89
  go_wp2
  go_loopg [8] l.length (fun gk i wr => ∃ k : Nat, k + gk = l.length ∧ i = .int .i64 k ∧ Below w.heap.size w wr ∧ (l.take k).any p = false)
  case atStart => exact ⟨0, by omega, rfl, Below.refl _ _, rfl⟩
  case round =>
    obtain ⟨k, hk, rfl, hbe, hno⟩ := hrel
    have HK := hid hk
    have HNO := hid hno
    clear hno
    by_cases hlt : k < l.length
    · obtain ⟨b, off, rfl, hbs, vi, c0, c1, c2, c3, c4, hi⟩ := (HL.out.below blkStays hbe).at k hlt
      have HC := hid (HG.out _ (List.getElem_mem hlt) vi wr hbe hi)
      have HS := hid (noneG_succ (p := p) hlt HNO.out)
      have HY := hid (anyG_split (p := p) hlt)
      clear hk hi
      generalize l[k] = n at *
      skip
      cases hp : p n with
      | true =>
        rw [hp] at HC
        have HP := hid hp
        clear hp
        go_wp2_with fail
        refine HC.out.mono ?_
        rintro e w1 ⟨rfl, hb1⟩
        have hbe1 := hbe.trans (hb1.mono hbe.size)
        clear hbe hb1 HC
        go_wp2
        go_ret
        exact ⟨k, rfl, by rw [HY.out HP.out]; simp, by omega, hbe1⟩
      | false =>
        rw [hp] at HC
        have HP := hid hp
        clear hp
        go_wp2_with fail
        refine HC.out.mono ?_
        rintro e w1 ⟨rfl, hb1⟩
        have hbe1 := hbe.trans (hb1.mono hbe.size)
        clear hbe hb1 HC
        go_wp2
        go_roundg (gk - 1)
        case measure => have := HK.out; omega
        case rel => exact ⟨k + 1, by have := HK.out; omega, by go_num, hbe1, HS.out HP.out⟩
    · obtain rfl : k = l.length := by omega
      clear hk
      go_wp2
      go_ret
      exact ⟨-1, rfl, by have := HNO.out; rw [List.take_length] at this; rw [this]; rfl, by omega, hbe⟩

theorem containsB_calls (g : FuncId) (he : Enters Tryz.prog g) (cb : Nat) (p : Bx → Bool) (v : Value) (l : List Bx) (w : World) (hl : BlksAt w v l)
    (hg : ∀ x ∈ l, ∀ vi wx, Below w.heap.size w wx → InsAt wx vi x.ins → Calls Tryz.prog g #[bxV x vi, .pointer (some ⟨cb, 0, none⟩)] wx (BoolR (p x) wx)) :
    Calls Tryz.prog 74 #[v, .func (.func g) #[] #[.pointer (some ⟨cb, 0, none⟩)]] w (BoolR (l.any p) w) := by
  have HC := hid (indexB_calls g he cb p v l w hl hg)
  clear hg hl he
  go_enter Tryz.func74, Tryz.ntmps74
  go_wp2_with fail
  refine HC.out.mono ?_
  rintro e w1 ⟨i, rfl, hi, hm, hb1⟩
  have HI := hid hi
  clear hi
  go_wp2
  all_goals
    go_ret
    refine ⟨?_, hb1⟩
    rw [← HI.out]
    first | rfl | (congr 2; simp; omega)
end Go.Proofs.YtimnjkdhcnhkoaaGreatDoor.ShC
namespace Go.Proofs.YtimnjkdhcnhkoaaGreatDoor.ShQ
open Go.RowKit Go.Lib SetP IntO TyM TyP TyB ShM ShP ShA ShB

theorem exHeld : Tryz.prog.stoodInHeld 42 = false := by kernel_rfl
theorem exFields : (Tryz.prog.fieldsOf 42).toList.map (fun f => (f.name == "_", f.type, f.offset)) = [(false, 5, 0), (false, 3, 1), (false, 3, 2), (false, 3, 3)] := by kernel_rfl
theorem exUnder : Tryz.prog.underlying 42 = some (.struct (Tryz.prog.fieldsOf 42)) := by kernel_rfl
set_option maxHeartbeats 1000000 in
theorem eql_ex (x0 x1 x2 x3 y0 y1 y2 y3 : Int) (w : World) : (binOp .eql 42 (.agg #[.int .u8 x0, .int .i64 x1, .int .i64 x2, .int .i64 x3]) (.agg #[.int .u8 y0, .int .i64 y1, .int .i64 y2, .int .i64 y3])).run Tryz.prog w = .ok (.bool ((x0 == y0) && ((x1 == y1) && ((x2 == y2) && (x3 == y3))))) w := by
  rw [run_eql_struct, run_equalIn_struct w 9999 _ _ _ exUnder exHeld]
  have hf := exFields
  generalize (Tryz.prog.fieldsOf 42).toList = fs at hf
  rcases fs with _ | ⟨f0, _ | ⟨f1, _ | ⟨f2, _ | ⟨f3, _ | ⟨g, t⟩⟩⟩⟩⟩
  · simp at hf
  · simp at hf
  · simp at hf
  · simp at hf
  · simp only [List.map_cons, List.map_nil, List.cons.injEq, Prod.mk.injEq, and_true] at hf
    obtain ⟨⟨a0, b0, c0⟩, ⟨a1, b1, c1⟩, ⟨a2, b2, c2⟩, a3, b3, c3⟩ := hf
    have n0 : f0.name ≠ "_" := by simpa using a0
    have n1 : f1.name ≠ "_" := by simpa using a1
    have n2 : f2.name ≠ "_" := by simpa using a2
    have n3 : f3.name ≠ "_" := by simpa using a3
    simp only [Op.eqFields, ne_eq, n0, n1, n2, n3, not_false_eq_true, if_true, b0, c0, b1, c1, b2, c2, b3, c3]
    have ui64 := Tryz.underlying3
    have uu8 := Tryz.underlying5
    simp [go_sem, ui64, uu8]
    all_goals (try (repeat' split) <;> simp_all)
  · simp at hf
set_option maxHeartbeats 1000000 in
theorem neq_ex (x0 x1 x2 x3 y0 y1 y2 y3 : Int) (w : World) : (binOp .neq 42 (.agg #[.int .u8 x0, .int .i64 x1, .int .i64 x2, .int .i64 x3]) (.agg #[.int .u8 y0, .int .i64 y1, .int .i64 y2, .int .i64 y3])).run Tryz.prog w = .ok (.bool (!((x0 == y0) && ((x1 == y1) && ((x2 == y2) && (x3 == y3)))))) w := by
  rw [run_neq_struct, run_equalIn_struct w 9999 _ _ _ exUnder exHeld]
  have hf := exFields
  generalize (Tryz.prog.fieldsOf 42).toList = fs at hf
  rcases fs with _ | ⟨f0, _ | ⟨f1, _ | ⟨f2, _ | ⟨f3, _ | ⟨g, t⟩⟩⟩⟩⟩
  · simp at hf
  · simp at hf
  · simp at hf
  · simp at hf
  · simp only [List.map_cons, List.map_nil, List.cons.injEq, Prod.mk.injEq, and_true] at hf
    obtain ⟨⟨a0, b0, c0⟩, ⟨a1, b1, c1⟩, ⟨a2, b2, c2⟩, a3, b3, c3⟩ := hf
    have n0 : f0.name ≠ "_" := by simpa using a0
    have n1 : f1.name ≠ "_" := by simpa using a1
    have n2 : f2.name ≠ "_" := by simpa using a2
    have n3 : f3.name ≠ "_" := by simpa using a3
    simp only [Op.eqFields, ne_eq, n0, n1, n2, n3, not_false_eq_true, if_true, b0, c0, b1, c1, b2, c2, b3, c3]
    have ui64 := Tryz.underlying3
    have uu8 := Tryz.underlying5
    simp [go_sem, ui64, uu8]
    all_goals (try (repeat' split) <;> simp_all)
  · simp at hf
theorem hEHeld : Tryz.prog.stoodInHeld 138 = false := by kernel_rfl
theorem hEFields : (Tryz.prog.fieldsOf 138).toList.map (fun f => (f.name == "_", f.type, f.offset)) = [(false, 5, 0), (false, 5, 1), (false, 5, 2)] := by kernel_rfl
theorem hEUnder : Tryz.prog.underlying 138 = some (.struct (Tryz.prog.fieldsOf 138)) := by kernel_rfl
set_option maxHeartbeats 1000000 in
theorem eql_hE (x0 x1 x2 y0 y1 y2 : Int) (w : World) : (binOp .eql 138 (.agg #[.int .u8 x0, .int .u8 x1, .int .u8 x2]) (.agg #[.int .u8 y0, .int .u8 y1, .int .u8 y2])).run Tryz.prog w = .ok (.bool ((x0 == y0) && ((x1 == y1) && (x2 == y2)))) w := by
  rw [run_eql_struct, run_equalIn_struct w 9999 _ _ _ hEUnder hEHeld]
  have hf := hEFields
  generalize (Tryz.prog.fieldsOf 138).toList = fs at hf
  rcases fs with _ | ⟨f0, _ | ⟨f1, _ | ⟨f2, _ | ⟨g, t⟩⟩⟩⟩
  · simp at hf
  · simp at hf
  · simp at hf
  · simp only [List.map_cons, List.map_nil, List.cons.injEq, Prod.mk.injEq, and_true] at hf
    obtain ⟨⟨a0, b0, c0⟩, ⟨a1, b1, c1⟩, a2, b2, c2⟩ := hf
    have n0 : f0.name ≠ "_" := by simpa using a0
    have n1 : f1.name ≠ "_" := by simpa using a1
    have n2 : f2.name ≠ "_" := by simpa using a2
    simp only [Op.eqFields, ne_eq, n0, n1, n2, not_false_eq_true, if_true, b0, c0, b1, c1, b2, c2]
    have uu8 := Tryz.underlying5
    simp [go_sem, uu8]
    all_goals (try (repeat' split) <;> simp_all)
  · simp at hf
set_option maxHeartbeats 1000000 in
theorem neq_hE (x0 x1 x2 y0 y1 y2 : Int) (w : World) : (binOp .neq 138 (.agg #[.int .u8 x0, .int .u8 x1, .int .u8 x2]) (.agg #[.int .u8 y0, .int .u8 y1, .int .u8 y2])).run Tryz.prog w = .ok (.bool (!((x0 == y0) && ((x1 == y1) && (x2 == y2))))) w := by
  rw [run_neq_struct, run_equalIn_struct w 9999 _ _ _ hEUnder hEHeld]
  have hf := hEFields
  generalize (Tryz.prog.fieldsOf 138).toList = fs at hf
  rcases fs with _ | ⟨f0, _ | ⟨f1, _ | ⟨f2, _ | ⟨g, t⟩⟩⟩⟩
  · simp at hf
  · simp at hf
  · simp at hf
  · simp only [List.map_cons, List.map_nil, List.cons.injEq, Prod.mk.injEq, and_true] at hf
    obtain ⟨⟨a0, b0, c0⟩, ⟨a1, b1, c1⟩, a2, b2, c2⟩ := hf
    have n0 : f0.name ≠ "_" := by simpa using a0
    have n1 : f1.name ≠ "_" := by simpa using a1
    have n2 : f2.name ≠ "_" := by simpa using a2
    simp only [Op.eqFields, ne_eq, n0, n1, n2, not_false_eq_true, if_true, b0, c0, b1, c1, b2, c2]
    have uu8 := Tryz.underlying5
    simp [go_sem, uu8]
    all_goals (try (repeat' split) <;> simp_all)
  · simp at hf
theorem hIHeld : Tryz.prog.stoodInHeld 143 = false := by kernel_rfl
theorem hIFields : (Tryz.prog.fieldsOf 143).toList.map (fun f => (f.name == "_", f.type, f.offset)) = [(false, 5, 0), (false, 5, 1), (false, 5, 2), (false, 5, 3), (false, 3, 4), (false, 3, 5), (false, 3, 6)] := by kernel_rfl
theorem hIUnder : Tryz.prog.underlying 143 = some (.struct (Tryz.prog.fieldsOf 143)) := by kernel_rfl
set_option maxHeartbeats 1000000 in
theorem eql_hI (x0 x1 x2 x3 x4 x5 x6 y0 y1 y2 y3 y4 y5 y6 : Int) (w : World) : (binOp .eql 143 (.agg #[.int .u8 x0, .int .u8 x1, .int .u8 x2, .int .u8 x3, .int .i64 x4, .int .i64 x5, .int .i64 x6]) (.agg #[.int .u8 y0, .int .u8 y1, .int .u8 y2, .int .u8 y3, .int .i64 y4, .int .i64 y5, .int .i64 y6])).run Tryz.prog w = .ok (.bool ((x0 == y0) && ((x1 == y1) && ((x2 == y2) && ((x3 == y3) && ((x4 == y4) && ((x5 == y5) && (x6 == y6)))))))) w := by
  rw [run_eql_struct, run_equalIn_struct w 9999 _ _ _ hIUnder hIHeld]
  have hf := hIFields
  generalize (Tryz.prog.fieldsOf 143).toList = fs at hf
  rcases fs with _ | ⟨f0, _ | ⟨f1, _ | ⟨f2, _ | ⟨f3, _ | ⟨f4, _ | ⟨f5, _ | ⟨f6, _ | ⟨g, t⟩⟩⟩⟩⟩⟩⟩⟩
  · simp at hf
  · simp at hf
  · simp at hf
  · simp at hf
  · simp at hf
  · simp at hf
  · simp at hf
  · simp only [List.map_cons, List.map_nil, List.cons.injEq, Prod.mk.injEq, and_true] at hf
    obtain ⟨⟨a0, b0, c0⟩, ⟨a1, b1, c1⟩, ⟨a2, b2, c2⟩, ⟨a3, b3, c3⟩, ⟨a4, b4, c4⟩, ⟨a5, b5, c5⟩, a6, b6, c6⟩ := hf
    have n0 : f0.name ≠ "_" := by simpa using a0
    have n1 : f1.name ≠ "_" := by simpa using a1
    have n2 : f2.name ≠ "_" := by simpa using a2
    have n3 : f3.name ≠ "_" := by simpa using a3
    have n4 : f4.name ≠ "_" := by simpa using a4
    have n5 : f5.name ≠ "_" := by simpa using a5
    have n6 : f6.name ≠ "_" := by simpa using a6
    simp only [Op.eqFields, ne_eq, n0, n1, n2, n3, n4, n5, n6, not_false_eq_true, if_true, b0, c0, b1, c1, b2, c2, b3, c3, b4, c4, b5, c5, b6, c6]
    have ui64 := Tryz.underlying3
    have uu8 := Tryz.underlying5
    simp [go_sem, ui64, uu8]
    all_goals (try (repeat' split) <;> simp_all)
  · simp at hf
set_option maxHeartbeats 1000000 in
theorem neq_hI (x0 x1 x2 x3 x4 x5 x6 y0 y1 y2 y3 y4 y5 y6 : Int) (w : World) : (binOp .neq 143 (.agg #[.int .u8 x0, .int .u8 x1, .int .u8 x2, .int .u8 x3, .int .i64 x4, .int .i64 x5, .int .i64 x6]) (.agg #[.int .u8 y0, .int .u8 y1, .int .u8 y2, .int .u8 y3, .int .i64 y4, .int .i64 y5, .int .i64 y6])).run Tryz.prog w = .ok (.bool (!((x0 == y0) && ((x1 == y1) && ((x2 == y2) && ((x3 == y3) && ((x4 == y4) && ((x5 == y5) && (x6 == y6))))))))) w := by
  rw [run_neq_struct, run_equalIn_struct w 9999 _ _ _ hIUnder hIHeld]
  have hf := hIFields
  generalize (Tryz.prog.fieldsOf 143).toList = fs at hf
  rcases fs with _ | ⟨f0, _ | ⟨f1, _ | ⟨f2, _ | ⟨f3, _ | ⟨f4, _ | ⟨f5, _ | ⟨f6, _ | ⟨g, t⟩⟩⟩⟩⟩⟩⟩⟩
  · simp at hf
  · simp at hf
  · simp at hf
  · simp at hf
  · simp at hf
  · simp at hf
  · simp at hf
  · simp only [List.map_cons, List.map_nil, List.cons.injEq, Prod.mk.injEq, and_true] at hf
    obtain ⟨⟨a0, b0, c0⟩, ⟨a1, b1, c1⟩, ⟨a2, b2, c2⟩, ⟨a3, b3, c3⟩, ⟨a4, b4, c4⟩, ⟨a5, b5, c5⟩, a6, b6, c6⟩ := hf
    have n0 : f0.name ≠ "_" := by simpa using a0
    have n1 : f1.name ≠ "_" := by simpa using a1
    have n2 : f2.name ≠ "_" := by simpa using a2
    have n3 : f3.name ≠ "_" := by simpa using a3
    have n4 : f4.name ≠ "_" := by simpa using a4
    have n5 : f5.name ≠ "_" := by simpa using a5
    have n6 : f6.name ≠ "_" := by simpa using a6
    simp only [Op.eqFields, ne_eq, n0, n1, n2, n3, n4, n5, n6, not_false_eq_true, if_true, b0, c0, b1, c1, b2, c2, b3, c3, b4, c4, b5, c5, b6, c6]
    have ui64 := Tryz.underlying3
    have uu8 := Tryz.underlying5
    simp [go_sem, ui64, uu8]
    all_goals (try (repeat' split) <;> simp_all)
  · simp at hf
end Go.Proofs.YtimnjkdhcnhkoaaGreatDoor.ShQ
namespace Go.Proofs.YtimnjkdhcnhkoaaGreatDoor.ShD
open Go.RowKit Go.Lib Go.Shelf SetP IntO TyM TyP TyB ShM ShP ShA ShB ShQ

theorem ex_dec (x y : Ex) : ((x.kind == y.kind) && ((x.a == y.a) && ((x.to == y.to) && (x.els == y.els)))) = decide (x = y) := by
  rw [Bool.eq_iff_iff]
  simp [ex_eq]
theorem alloc2 (w : World) (o o' : Obj) : Below w.heap.size w ((w.alloc o).alloc o') := ((Below.refl _ _).alloc (Nat.le_refl _) _).alloc (by simp) _
end Go.Proofs.YtimnjkdhcnhkoaaGreatDoor.ShD
