/- Walks over shape.Uses and shape.Ends, and the reference's two, HasA, HasArgs, Answers, Uses, Ends. Walks over slices.IndexFunc and slices.ContainsFunc at instructions and blocks. Structs compared: ends, and what an instruction, or an end, has. Ends compared field by field; two blocks made. Walk over fescueref06.Great. Walk over shape.Uses. A walk over the reference's Ends. A walk over shape.Ends. -/
import Derived.Test.YtpejpnffcepdlaaGreatDoorZShAToShAn
import Derived.Test.YtpejpnffcepdlaaGreatDoorZFwRToTyRT
import Derived.Laws.StructEq
import Derived.Test.YtpejpnffcepdlaaGreatDoorZTyBToTyTI
namespace Go.Proofs.YtpejpnffcepdlaaGreatDoor.ShB
open Go.RowKit Go.Lib SetP IntO TyM TyP TyB ShM ShP ShA

/-- what is known of a block behind a call -/
theorem copyF {W w1 : World} {b B : Nat} {cs : Array Value} {ty : TypeId} (hw : W.heap[b]? = some (.cells cs ty (0, 0))) (hb : Below B W w1) (hB : b < B) :
  (∀ i (h : i < cs.size), w1.cell? ⟨b, i, none⟩ = some cs[i]) ∧ (∀ i, w1.frozen? ⟨b, i, none⟩ = false) ∧ b < w1.heap.size ∧ w1.heap[b]? = some (.cells cs ty (0, 0)) := by
 have hk := (hb.block b hB).trans hw
 refine ⟨fun i h => ?_, fun i => ?_, (Array.getElem?_eq_some_iff.1 hk).1, hk⟩
 ·unfold World.cell?; rw [hk]; simp [h]
 ·unfold World.frozen?; rw [hk]; simp
theorem alloc_new (w : World) (o : Obj) : (w.alloc o).heap[w.heap.size]? = some o := by
 show (w.heap.push o)[w.heap.size]? = some o
 simp
theorem alloc_old {w : World} {b : Nat} {o : Obj} (h : w.heap[b]? = some o) (o' : Obj) : (w.alloc o').heap[b]? = some o :=
 (Below.heap_alloc _ _ _ (Array.getElem?_eq_some_iff.1 h).1).trans h
theorem own_grown {B : Nat} {w0 w w' : World} {u : Value} {m : Nat} {xs : List Value} {ty : TypeId} {s : Nat} (hb : Below B w0 w) (ho : w.ownsRow B ty s u m xs) (hg : w.grownBy w' u.ownBlock) (hB : B ≤ w.heap.size) : Below B w0 w' :=
 hb.grown hg hB fun g hgg => (ho.lt g hgg).1
theorem cell_new (w : World) (v : Value) (t : TypeId) (n : Nat) (h : w.heap.size = n) : (w.alloc (.cells #[v] t)).cell? ⟨n, 0, none⟩ = some v := by subst h; simp
theorem size_new (w : World) (o : Obj) (n : Nat) (h : w.heap.size = n) : n < (w.alloc o).heap.size := by subst h; simp
theorem own_slice {w : World} {B m s : Nat} {e : TypeId} {v : Value} {xs : List Value} (h : w.ownsRow B e s v m xs) : ∃ a c, v = .slice a m c := by
 rcases h.2 with ⟨rfl, h0⟩ | ⟨_, _, _, rfl, _⟩
 ·rw [h0]; exact ⟨_, _, rfl⟩
 ·exact ⟨_, _, rfl⟩

/-- the registers that an instruction reads, by three tests -/
def usesL (A B M : Bool) (a b : Int) (l : List Int) : List Int := (if A = true then [a] else []) ++ ((if B = true then [b] else []) ++ (if M = true then l else []))
theorem uses_tells (x : Ix) (h0 : 0 ≤ x.op) : usesOf x = usesL (decide ((hasOf x.op).a = 3)) (decide ((hasOf x.op).b = 3)) (decide (0 < (hasOf x.op).most)) x.a x.b x.args := by
 obtain ⟨_, h1, h2, h3⟩ := has_tells h0
 unfold usesL
 rw [h1, h2, h3]; rfl


end Go.Proofs.YtpejpnffcepdlaaGreatDoor.ShB
namespace Go.Proofs.YtpejpnffcepdlaaGreatDoor.ShC
open Go.RowKit Go.Lib SetP IntO TyM TyP TyB ShM ShP ShA ShB

/-- an index, or -1 -/
def IdxG {α : Type} (p : α → Bool) (l : List α) (w : World) (e : Ending) (w' : World) : Prop := ∃ i : Int, e = .returned (.int .i64 i) ∧ decide (0 ≤ i) = l.any p ∧ -1 ≤ i ∧ Below w.heap.size w w'
theorem anyG_split {α : Type} {p : α → Bool} {l : List α} {k : Nat} (hk : k < l.length) (hp : p l[k] = true) : l.any p = true :=
 List.any_eq_true.2 ⟨l[k], List.getElem_mem hk, hp⟩
theorem noneG_succ {α : Type} {p : α → Bool} {l : List α} {k : Nat} (hk : k < l.length) (h : (l.take k).any p = false) (hp : p l[k] = false) : (l.take (k + 1)).any p = false := by
 rw [List.take_succ_eq_append_getElem hk, List.any_append, h]
 simp [hp]

set_option maxRecDepth 100000 in
set_option maxHeartbeats 2000000 in
theorem indexI_calls (g : FuncId) (he : Enters Tryz.prog g) (cb : Nat) (p : Ix → Bool) (v : Value) (l : List Ix) (w : World) (hl : InsAt w v l)
  (hg : ∀ x ∈ l, ∀ va vf wx, Below w.heap.size w wx → IntsAt wx va x.args → IntsAt wx vf x.frm → Calls Tryz.prog g #[ixV x va vf, .pointer (some ⟨cb, 0, none⟩)] wx (BoolR (p x) wx)) :
  Calls Tryz.prog 158 #[v, .func (.func g) #[] #[.pointer (some ⟨cb, 0, none⟩)]] w (IdxG p l w) := by
 have he' : ∀ args w, (callFunc g args).run Tryz.prog w = .ok (.enter g args) w := he
 have HG := hid hg
 have HL := hid hl
 obtain ⟨ao, cap, rfl, hlen⟩ := hl.slice
 clear hg hl
 go_enter Tryz.func158, Tryz.ntmps158
 go_wp2
 go_loopg [8] l.length (fun gk i wr => ∃ k : Nat, k + gk = l.length ∧ i = .int .i64 k ∧ Below w.heap.size w wr ∧ (l.take k).any p = false)
 case atStart => exact ⟨0, by omega, rfl, Below.refl _ _, rfl⟩
 case round =>
  obtain ⟨k, hk, rfl, hbe, hno⟩ := hrel
  have HK := hid hk
  have HNO := hid hno
  clear hno
  by_cases hlt : k < l.length
  ·obtain ⟨b, off, rfl, hbs, va, vf, c0, c1, c2, c3, c4, c5, c6, ha, hf⟩ := (HL.out.below insStays hbe).at k hlt
   have HC := hid (HG.out _ (List.getElem_mem hlt) va vf wr hbe ha hf)
   have HS := hid (noneG_succ (p := p) hlt HNO.out)
   have HY := hid (anyG_split (p := p) hlt)
   clear hk ha hf
   generalize l[k] = n at *
   skip
   cases hp : p n with
   | true =>
    rw [hp] at HC
    have HP := hid hp
    clear hp
    go_wp2_with fail
    refine HC.out.mono ?_
    rintro e w1 ⟨rfl, hb1⟩
    have hbe1 := hbe.trans (hb1.mono hbe.size)
    clear hbe hb1 HC
    go_wp2
    go_ret
    exact ⟨k, rfl, by rw [HY.out HP.out]; simp, by omega, hbe1⟩
   | false =>
    rw [hp] at HC
    have HP := hid hp
    clear hp
    go_wp2_with fail
    refine HC.out.mono ?_
    rintro e w1 ⟨rfl, hb1⟩
    have hbe1 := hbe.trans (hb1.mono hbe.size)
    clear hbe hb1 HC
    go_wp2
    go_roundg (gk - 1)
    case measure => have := HK.out; omega
    case rel => exact ⟨k + 1, by have := HK.out; omega, by go_num, hbe1, HS.out HP.out⟩
  ·obtain rfl : k = l.length := by omega
   clear hk
   go_wp2
   go_ret
   exact ⟨-1, rfl, by have := HNO.out; rw [List.take_length] at this; rw [this]; rfl, by omega, hbe⟩

theorem containsI_calls (g : FuncId) (he : Enters Tryz.prog g) (cb : Nat) (p : Ix → Bool) (v : Value) (l : List Ix) (w : World) (hl : InsAt w v l)
  (hg : ∀ x ∈ l, ∀ va vf wx, Below w.heap.size w wx → IntsAt wx va x.args → IntsAt wx vf x.frm → Calls Tryz.prog g #[ixV x va vf, .pointer (some ⟨cb, 0, none⟩)] wx (BoolR (p x) wx)) :
  Calls Tryz.prog 112 #[v, .func (.func g) #[] #[.pointer (some ⟨cb, 0, none⟩)]] w (BoolR (l.any p) w) := by
 have HC := hid (indexI_calls g he cb p v l w hl hg)
 clear hg hl he
 go_enter Tryz.func112, Tryz.ntmps112
 go_wp2_with fail
 refine HC.out.mono ?_
 rintro e w1 ⟨i, rfl, hi, hm, hb1⟩
 have HI := hid hi
 clear hi
 go_wp2
 all_goals
  go_ret
  refine ⟨?_, hb1⟩
  rw [← HI.out]
  first | rfl | (congr 2; simp; omega)

set_option maxRecDepth 100000 in
set_option maxHeartbeats 2000000 in
theorem indexB_calls (g : FuncId) (he : Enters Tryz.prog g) (cb : Nat) (p : Bx → Bool) (v : Value) (l : List Bx) (w : World) (hl : BlksAt w v l)
  (hg : ∀ x ∈ l, ∀ vi wx, Below w.heap.size w wx → InsAt wx vi x.ins → Calls Tryz.prog g #[bxV x vi, .pointer (some ⟨cb, 0, none⟩)] wx (BoolR (p x) wx)) :
  Calls Tryz.prog 156 #[v, .func (.func g) #[] #[.pointer (some ⟨cb, 0, none⟩)]] w (IdxG p l w) := by
 have he' : ∀ args w, (callFunc g args).run Tryz.prog w = .ok (.enter g args) w := he
 have HG := hid hg
 have HL := hid hl
 obtain ⟨ao, cap, rfl, hlen⟩ := hl.slice
 clear hg hl
 go_enter Tryz.func156, Tryz.ntmps156
 go_wp2
 go_loopg [8] l.length (fun gk i wr => ∃ k : Nat, k + gk = l.length ∧ i = .int .i64 k ∧ Below w.heap.size w wr ∧ (l.take k).any p = false)
 case atStart => exact ⟨0, by omega, rfl, Below.refl _ _, rfl⟩
 case round =>
  obtain ⟨k, hk, rfl, hbe, hno⟩ := hrel
  have HK := hid hk
  have HNO := hid hno
  clear hno
  by_cases hlt : k < l.length
  ·obtain ⟨b, off, rfl, hbs, vi, c0, c1, c2, c3, c4, hi⟩ := (HL.out.below blkStays hbe).at k hlt
   have HC := hid (HG.out _ (List.getElem_mem hlt) vi wr hbe hi)
   have HS := hid (noneG_succ (p := p) hlt HNO.out)
   have HY := hid (anyG_split (p := p) hlt)
   clear hk hi
   generalize l[k] = n at *
   skip
   cases hp : p n with
   | true =>
    rw [hp] at HC
    have HP := hid hp
    clear hp
    go_wp2_with fail
    refine HC.out.mono ?_
    rintro e w1 ⟨rfl, hb1⟩
    have hbe1 := hbe.trans (hb1.mono hbe.size)
    clear hbe hb1 HC
    go_wp2
    go_ret
    exact ⟨k, rfl, by rw [HY.out HP.out]; simp, by omega, hbe1⟩
   | false =>
    rw [hp] at HC
    have HP := hid hp
    clear hp
    go_wp2_with fail
    refine HC.out.mono ?_
    rintro e w1 ⟨rfl, hb1⟩
    have hbe1 := hbe.trans (hb1.mono hbe.size)
    clear hbe hb1 HC
    go_wp2
    go_roundg (gk - 1)
    case measure => have := HK.out; omega
    case rel => exact ⟨k + 1, by have := HK.out; omega, by go_num, hbe1, HS.out HP.out⟩
  ·obtain rfl : k = l.length := by omega
   clear hk
   go_wp2
   go_ret
   exact ⟨-1, rfl, by have := HNO.out; rw [List.take_length] at this; rw [this]; rfl, by omega, hbe⟩

theorem containsB_calls (g : FuncId) (he : Enters Tryz.prog g) (cb : Nat) (p : Bx → Bool) (v : Value) (l : List Bx) (w : World) (hl : BlksAt w v l)
  (hg : ∀ x ∈ l, ∀ vi wx, Below w.heap.size w wx → InsAt wx vi x.ins → Calls Tryz.prog g #[bxV x vi, .pointer (some ⟨cb, 0, none⟩)] wx (BoolR (p x) wx)) :
  Calls Tryz.prog 109 #[v, .func (.func g) #[] #[.pointer (some ⟨cb, 0, none⟩)]] w (BoolR (l.any p) w) := by
 have HC := hid (indexB_calls g he cb p v l w hl hg)
 clear hg hl he
 go_enter Tryz.func109, Tryz.ntmps109
 go_wp2_with fail
 refine HC.out.mono ?_
 rintro e w1 ⟨i, rfl, hi, hm, hb1⟩
 have HI := hid hi
 clear hi
 go_wp2
 all_goals
  go_ret
  refine ⟨?_, hb1⟩
  rw [← HI.out]
  first | rfl | (congr 2; simp; omega)
end Go.Proofs.YtpejpnffcepdlaaGreatDoor.ShC
namespace Go.Proofs.YtpejpnffcepdlaaGreatDoor.ShQ
open Go.RowKit Go.Lib SetP IntO TyM TyP TyB ShM ShP ShA ShB

theorem hEHeld : Tryz.prog.stoodInHeld 210 = false := by kernel_rfl
theorem hEFields : (Tryz.prog.fieldsOf 210).toList.map (fun f => (f.name == "_", f.type, f.offset)) = [(false, 5, 0), (false, 5, 1), (false, 5, 2)] := by kernel_rfl
theorem hEUnder : Tryz.prog.underlying 210 = some (.struct (Tryz.prog.fieldsOf 210)) := by kernel_rfl
set_option maxHeartbeats 1000000 in
theorem eql_hE (x0 x1 x2 y0 y1 y2 : Int) (w : World) : (binOp .eql 210 (.agg #[.int .u8 x0, .int .u8 x1, .int .u8 x2]) (.agg #[.int .u8 y0, .int .u8 y1, .int .u8 y2])).run Tryz.prog w = .ok (.bool ((x0 == y0) && ((x1 == y1) && (x2 == y2)))) w := by
 rw [run_eql_struct, run_equalIn_struct w 9999 _ _ _ hEUnder hEHeld]
 have hf := hEFields
 generalize (Tryz.prog.fieldsOf 210).toList = fs at hf
 rcases fs with _ | ⟨f0, _ | ⟨f1, _ | ⟨f2, _ | ⟨g, t⟩⟩⟩⟩
 ·simp at hf
 ·simp at hf
 ·simp at hf
 ·simp only [List.map_cons, List.map_nil, List.cons.injEq, Prod.mk.injEq, and_true] at hf
  obtain ⟨⟨a0, b0, c0⟩, ⟨a1, b1, c1⟩, a2, b2, c2⟩ := hf
  have n0 : f0.name ≠ "_" := by simpa using a0
  have n1 : f1.name ≠ "_" := by simpa using a1
  have n2 : f2.name ≠ "_" := by simpa using a2
  simp only [Op.eqFields, ne_eq, n0, n1, n2, not_false_eq_true, if_true, b0, c0, b1, c1, b2, c2]
  have uu8 := Tryz.underlying5
  simp [go_sem, uu8]
  all_goals (try (repeat' split) <;> simp_all)
 ·simp at hf
set_option maxHeartbeats 1000000 in
theorem neq_hE (x0 x1 x2 y0 y1 y2 : Int) (w : World) : (binOp .neq 210 (.agg #[.int .u8 x0, .int .u8 x1, .int .u8 x2]) (.agg #[.int .u8 y0, .int .u8 y1, .int .u8 y2])).run Tryz.prog w = .ok (.bool (!((x0 == y0) && ((x1 == y1) && (x2 == y2))))) w := by
 rw [run_neq_struct, run_equalIn_struct w 9999 _ _ _ hEUnder hEHeld]
 have hf := hEFields
 generalize (Tryz.prog.fieldsOf 210).toList = fs at hf
 rcases fs with _ | ⟨f0, _ | ⟨f1, _ | ⟨f2, _ | ⟨g, t⟩⟩⟩⟩
 ·simp at hf
 ·simp at hf
 ·simp at hf
 ·simp only [List.map_cons, List.map_nil, List.cons.injEq, Prod.mk.injEq, and_true] at hf
  obtain ⟨⟨a0, b0, c0⟩, ⟨a1, b1, c1⟩, a2, b2, c2⟩ := hf
  have n0 : f0.name ≠ "_" := by simpa using a0
  have n1 : f1.name ≠ "_" := by simpa using a1
  have n2 : f2.name ≠ "_" := by simpa using a2
  simp only [Op.eqFields, ne_eq, n0, n1, n2, not_false_eq_true, if_true, b0, c0, b1, c1, b2, c2]
  have uu8 := Tryz.underlying5
  simp [go_sem, uu8]
  all_goals (try (repeat' split) <;> simp_all)
 ·simp at hf
theorem hIHeld : Tryz.prog.stoodInHeld 89 = false := by kernel_rfl
theorem hIFields : (Tryz.prog.fieldsOf 89).toList.map (fun f => (f.name == "_", f.type, f.offset)) = [(false, 5, 0), (false, 5, 1), (false, 5, 2), (false, 5, 3), (false, 3, 4), (false, 3, 5), (false, 3, 6)] := by kernel_rfl
theorem hIUnder : Tryz.prog.underlying 89 = some (.struct (Tryz.prog.fieldsOf 89)) := by kernel_rfl
set_option maxHeartbeats 1000000 in
theorem eql_hI (x0 x1 x2 x3 x4 x5 x6 y0 y1 y2 y3 y4 y5 y6 : Int) (w : World) : (binOp .eql 89 (.agg #[.int .u8 x0, .int .u8 x1, .int .u8 x2, .int .u8 x3, .int .i64 x4, .int .i64 x5, .int .i64 x6]) (.agg #[.int .u8 y0, .int .u8 y1, .int .u8 y2, .int .u8 y3, .int .i64 y4, .int .i64 y5, .int .i64 y6])).run Tryz.prog w = .ok (.bool ((x0 == y0) && ((x1 == y1) && ((x2 == y2) && ((x3 == y3) && ((x4 == y4) && ((x5 == y5) && (x6 == y6)))))))) w := by
 rw [run_eql_struct, run_equalIn_struct w 9999 _ _ _ hIUnder hIHeld]
 have hf := hIFields
 generalize (Tryz.prog.fieldsOf 89).toList = fs at hf
 rcases fs with _ | ⟨f0, _ | ⟨f1, _ | ⟨f2, _ | ⟨f3, _ | ⟨f4, _ | ⟨f5, _ | ⟨f6, _ | ⟨g, t⟩⟩⟩⟩⟩⟩⟩⟩
 ·simp at hf
 ·simp at hf
 ·simp at hf
 ·simp at hf
 ·simp at hf
 ·simp at hf
 ·simp at hf
 ·simp only [List.map_cons, List.map_nil, List.cons.injEq, Prod.mk.injEq, and_true] at hf
  obtain ⟨⟨a0, b0, c0⟩, ⟨a1, b1, c1⟩, ⟨a2, b2, c2⟩, ⟨a3, b3, c3⟩, ⟨a4, b4, c4⟩, ⟨a5, b5, c5⟩, a6, b6, c6⟩ := hf
  have n0 : f0.name ≠ "_" := by simpa using a0
  have n1 : f1.name ≠ "_" := by simpa using a1
  have n2 : f2.name ≠ "_" := by simpa using a2
  have n3 : f3.name ≠ "_" := by simpa using a3
  have n4 : f4.name ≠ "_" := by simpa using a4
  have n5 : f5.name ≠ "_" := by simpa using a5
  have n6 : f6.name ≠ "_" := by simpa using a6
  simp only [Op.eqFields, ne_eq, n0, n1, n2, n3, n4, n5, n6, not_false_eq_true, if_true, b0, c0, b1, c1, b2, c2, b3, c3, b4, c4, b5, c5, b6, c6]
  have ui64 := Tryz.underlying3
  have uu8 := Tryz.underlying5
  simp [go_sem, ui64, uu8]
  all_goals (try (repeat' split) <;> simp_all)
 ·simp at hf
set_option maxHeartbeats 1000000 in
theorem neq_hI (x0 x1 x2 x3 x4 x5 x6 y0 y1 y2 y3 y4 y5 y6 : Int) (w : World) : (binOp .neq 89 (.agg #[.int .u8 x0, .int .u8 x1, .int .u8 x2, .int .u8 x3, .int .i64 x4, .int .i64 x5, .int .i64 x6]) (.agg #[.int .u8 y0, .int .u8 y1, .int .u8 y2, .int .u8 y3, .int .i64 y4, .int .i64 y5, .int .i64 y6])).run Tryz.prog w = .ok (.bool (!((x0 == y0) && ((x1 == y1) && ((x2 == y2) && ((x3 == y3) && ((x4 == y4) && ((x5 == y5) && (x6 == y6))))))))) w := by
 rw [run_neq_struct, run_equalIn_struct w 9999 _ _ _ hIUnder hIHeld]
 have hf := hIFields
 generalize (Tryz.prog.fieldsOf 89).toList = fs at hf
 rcases fs with _ | ⟨f0, _ | ⟨f1, _ | ⟨f2, _ | ⟨f3, _ | ⟨f4, _ | ⟨f5, _ | ⟨f6, _ | ⟨g, t⟩⟩⟩⟩⟩⟩⟩⟩
 ·simp at hf
 ·simp at hf
 ·simp at hf
 ·simp at hf
 ·simp at hf
 ·simp at hf
 ·simp at hf
 ·simp only [List.map_cons, List.map_nil, List.cons.injEq, Prod.mk.injEq, and_true] at hf
  obtain ⟨⟨a0, b0, c0⟩, ⟨a1, b1, c1⟩, ⟨a2, b2, c2⟩, ⟨a3, b3, c3⟩, ⟨a4, b4, c4⟩, ⟨a5, b5, c5⟩, a6, b6, c6⟩ := hf
  have n0 : f0.name ≠ "_" := by simpa using a0
  have n1 : f1.name ≠ "_" := by simpa using a1
  have n2 : f2.name ≠ "_" := by simpa using a2
  have n3 : f3.name ≠ "_" := by simpa using a3
  have n4 : f4.name ≠ "_" := by simpa using a4
  have n5 : f5.name ≠ "_" := by simpa using a5
  have n6 : f6.name ≠ "_" := by simpa using a6
  simp only [Op.eqFields, ne_eq, n0, n1, n2, n3, n4, n5, n6, not_false_eq_true, if_true, b0, c0, b1, c1, b2, c2, b3, c3, b4, c4, b5, c5, b6, c6]
  have ui64 := Tryz.underlying3
  have uu8 := Tryz.underlying5
  simp [go_sem, ui64, uu8]
  all_goals (try (repeat' split) <;> simp_all)
 ·simp at hf
end Go.Proofs.YtpejpnffcepdlaaGreatDoor.ShQ
namespace Go.Proofs.YtpejpnffcepdlaaGreatDoor.ShD
open Go.RowKit Go.Lib Go.Shelf SetP IntO TyM TyP TyB ShM ShP ShA ShB ShQ

end Go.Proofs.YtpejpnffcepdlaaGreatDoor.ShD
namespace Go.Proofs.YtpejpnffcepdlaaGreatDoor.ShR
open Go.RowKit Go.Lib SetP IntO TyM TyP TyB TyQ TyRE ShM ShP ShA ShB

/-- a program is small, where Great says so -/
def GreatR (p : Px) (w : World) (e : Ending) (w' : World) : Prop := ∃ b : Bool, e = .returned (.bool b) ∧ (b = false → Small p) ∧ Below w.heap.size w w'
def GoodI (x : Ix) : Prop := x.args.length ≤ 20 ∧ x.frm.length ≤ 20
def GoodB (b : Bx) : Prop := ∀ x ∈ b.ins, GoodI x
def GoodF (f : Fx) : Prop := f.blocks.length ≤ 20 ∧ manyB f.blocks ≤ 20000 ∧ ∀ b ∈ f.blocks, GoodB b
/-- blocks of no more instructions than a machine may hold -/
def Lens (p : Px) : Prop := ∀ f ∈ p.funcs, ∀ b ∈ f.blocks, b.ins.length ≤ 140737488355328
theorem good_take {α : Type} {q : α → Prop} {l : List α} {k : Nat} (hk : k < l.length) (h : ∀ x ∈ l.take k, q x) (hp : q l[k]) : ∀ x ∈ l.take (k + 1), q x := by
 intro x hx
 rw [List.take_succ_eq_append_getElem hk] at hx
 rcases List.mem_append.1 hx with hx | hx
 ·exact h x hx
 ·rw [List.mem_singleton.1 hx]; exact hp
theorem good_all {α : Type} {q : α → Prop} {l : List α} (h : ∀ x ∈ l.take l.length, q x) : ∀ x ∈ l, q x := by rwa [List.take_length] at h

set_option maxRecDepth 100000 in
set_option maxHeartbeats 16000000 in
theorem great_calls (p : Px) (v : Value) (m : Int) (w : World) (hp : PrAt w v p) (hlen : Lens p) (hm0 : 0 ≤ m) (hm1 : m ≤ 20000) : Calls Tryz.prog 13 #[v, .int .i64 m] w (GreatR p w) := by
 obtain ⟨vt, vf, rfl, ht, hf⟩ := hp
 have hb0 := alloc_below w (.cells #[vt, vf] 27)
 have HG := hid (TyRE.great_calls vt p.types _ (ht.below hb0))
 have HGN := hid (@great_no p.types)
 have HF := hid hf
 have HB0 := hid hb0
 have HLN := hid hlen
 clear hlen
 obtain ⟨ta, tc, rfl⟩ := ht.slice
 obtain ⟨fa, fc, rfl, hfl⟩ := hf.slice
 clear ht hf hb0
 cases hg : greatB p.types with
 | true =>
  rw [hg] at HG
  clear HGN HF hg
  generalize p.types.length = n1 at *
  generalize p.funcs.length = n2 at *
  go_enter Tryz.func13, Tryz.ntmps13
  go_wp2_with fail
  refine HG.out.mono ?_
  rintro e w1 ⟨rfl, hb1⟩
  have hbe := HB0.out.trans (hb1.mono HB0.out.size)
  clear HG hb1
  go_wp2
  go_ret
  exact ⟨true, rfl, (fun h => by cases h), hbe⟩
 | false =>
  rw [hg] at HG
  have HSM := hid (HGN.out hg)
  clear HGN hg
  by_cases hn : p.funcs.length ≤ 10
  rotate_left
  ·have hgt : (10 : Int) < p.funcs.length := by omega
   clear HSM HF hn
   generalize p.types.length = n1 at *
   generalize p.funcs.length = n2 at *
   go_enter Tryz.func13, Tryz.ntmps13
   go_wp2_with fail
   refine HG.out.mono ?_
   rintro e w1 ⟨rfl, hb1⟩
   have hbe := HB0.out.trans (hb1.mono HB0.out.size)
   obtain ⟨f1, _, s1, k1⟩ := copyF (alloc_new _ _) hb1 (by simp only [World.size_alloc]; omega)
   have p1 := f1 1 (by simp)
   simp only [List.getElem_toArray, List.getElem_cons_succ, List.getElem_cons_zero] at p1
   clear HG hb1 f1 k1
   go_wp2
   go_ret
   exact ⟨true, rfl, (fun h => by cases h), hbe⟩
  have hgt : ¬ (10 : Int) < p.funcs.length := by omega
  go_enter Tryz.func13, Tryz.ntmps13
  go_wp2_with fail
  refine HG.out.mono ?_
  rintro e w1 ⟨rfl, hb1⟩
  have hbe := HB0.out.trans (hb1.mono HB0.out.size)
  obtain ⟨f1, _, s1, k1⟩ := copyF (alloc_new _ _) hb1 (by simp only [World.size_alloc]; omega)
  have HK := hid k1
  have HBE := hid hbe
  have p1 := f1 1 (by simp)
  simp only [List.getElem_toArray, List.getElem_cons_succ, List.getElem_cons_zero] at p1
  clear HG hb1 f1 k1 hbe
  go_wp2_with fail
  all_goals (try (exfalso; omega))
  go_loopg [5, 6] p.funcs.length (fun gk nv iv wr => ∃ k N : Nat, k + gk = p.funcs.length ∧ iv = .int .i64 k ∧ nv = .int .i64 N ∧ (N : Int) ≤ m ∧ (∀ f ∈ p.funcs.take k, GoodF f) ∧ Below w1.heap.size w1 wr)
  case atStart => exact ⟨0, 0, by omega, rfl, rfl, by simpa using hm0, by simp, Below.refl _ _⟩
  case round =>
   obtain ⟨k, N, hk, rfl, rfl, hN, hgood, hbr⟩ := hrel
   have HK1 := hid hk
   have HGOOD := hid hgood
   have hbw := HBE.out.trans (hbr.mono HBE.out.size)
   clear p1 s1
   obtain ⟨f1, _, s1, _⟩ := copyF HK.out hbr (Array.getElem?_eq_some_iff.1 HK.out).1
   have p1 := f1 1 (by simp)
   simp only [List.getElem_toArray, List.getElem_cons_succ, List.getElem_cons_zero] at p1
   clear f1 hgood
   by_cases hlt : k < p.funcs.length
   ·obtain ⟨fb, foff, rfl, hfb, vb, c0, c1, hbl⟩ := (HF.out.below fnStays hbw).at k hlt
    have HT := hid (fun hq => good_take (q := GoodF) hlt HGOOD.out hq)
    have HLX := hid (HLN.out _ (List.getElem_mem hlt))
    have hkn : k ≤ 20 := by omega
    clear hk
    generalize p.funcs[k] = x at *
    obtain ⟨ba, bc, rfl, hbll⟩ := hbl.slice
    have HBL := hid hbl
    clear hbl c0
    by_cases h20 : x.blocks.length ≤ 20
    rotate_left
    ·have hg20 : (20 : Int) < x.blocks.length := by omega
     go_wp2
     all_goals (try (exfalso; omega))
     go_ret
     exact ⟨true, rfl, (fun h => by cases h), hbw⟩
    have hg20 : ¬ (20 : Int) < x.blocks.length := by omega
    have HC1 := hid c1
    have HFB := hid hfb
    clear c1 hfb
    obtain ⟨wo, hwo⟩ : ∃ wo : World, wo = wr := ⟨wr, rfl⟩
    subst hwo
    obtain ⟨go, hgo⟩ : ∃ go : Nat, go = gk := ⟨gk, rfl⟩
    subst hgo
    have HBRo := hid hbr
    have HBWo := hid hbw
    have c1 := HC1.out
    clear hbr hbw
    have HP1o := hid (And.intro p1 s1)
    go_wp2_with fail
    all_goals (try (exfalso; omega))
    go_loopg [5, 7, 8, 9] x.blocks.length (fun gk nv qv _ _ wr => ∃ q M : Nat, q + gk = x.blocks.length ∧ qv = .int .i64 q ∧ nv = .int .i64 M ∧ (M : Int) ≤ m ∧ manyB (x.blocks.take q) ≤ M ∧ (∀ b ∈ x.blocks.take q, GoodB b) ∧ Below wo.heap.size wo wr)
    case atStart => exact ⟨0, N, by omega, rfl, rfl, hN, by simp [manyB_nil], by simp, Below.refl _ _⟩
    case round =>
     obtain ⟨q, M, hq, rfl, rfl, hM, hmb, hgb, hbq⟩ := hrel
     have HQ := hid hq
     have HMB := hid hmb
     have HGB := hid hgb
     have hb1q := HBRo.out.trans (hbq.mono HBRo.out.size)
     have hbwq := HBWo.out.trans (hbq.mono HBWo.out.size)
     clear c1 hmb hgb
     obtain ⟨f1, _, s1, _⟩ := copyF HK.out hb1q (Array.getElem?_eq_some_iff.1 HK.out).1
     have p1 := f1 1 (by simp)
     simp only [List.getElem_toArray, List.getElem_cons_succ, List.getElem_cons_zero] at p1
     have c1 := (hbq.cell (p := ⟨fb, foff + k * 2 + 1, none⟩) HFB.out).trans HC1.out
     clear f1
     by_cases hql : q < x.blocks.length
     ·obtain ⟨bb, boff, hba, hbb, vi, b0, _, _, _, _, hins⟩ := (HBL.out.below blkStays hbq).at q hql
      subst hba
      have HTB := hid (fun hq => good_take (q := GoodB) hql HGB.out hq)
      have HMT := hid (manyB_take hql)
      have hq20 : q ≤ 20 := by omega
      have hyl := HLX.out _ (List.getElem_mem hql)
      have HIL : Hid (x.blocks[q].ins.length = x.blocks[q].ins.length) := rfl
      clear hq HIL
      generalize x.blocks[q] = y at *
      obtain ⟨ia, ic, rfl, hill⟩ := hins.slice
      have HIN := hid hins
      clear hins
      by_cases hM2 : (M : Int) + y.ins.length ≤ m
      rotate_left
      ·have hbig : m < (M : Int) + y.ins.length := by omega
       go_wp2
       all_goals (try (exfalso; omega))
       go_ret
       exact ⟨true, rfl, (fun h => by cases h), hbwq⟩
      have hbig : ¬ m < (M : Int) + y.ins.length := by omega
      obtain ⟨wq, hwq⟩ : ∃ wq : World, wq = wr := ⟨wr, rfl⟩
      subst hwq
      obtain ⟨gq, hgq⟩ : ∃ gq : Nat, gq = gk := ⟨gk, rfl⟩
      subst hgq
      have HBQ := hid hbq
      have HBWQ := hid hbwq
      go_wp2_with fail
      all_goals (try (exfalso; omega))
      go_loopg [9] y.ins.length (fun gk zv wr => ∃ z : Nat, z + gk = y.ins.length ∧ zv = .int .i64 z ∧ (∀ u ∈ y.ins.take z, GoodI u) ∧ Below wq.heap.size wq wr)
      case atStart => exact ⟨0, by omega, rfl, by simp, Below.refl _ _⟩
      case round =>
       obtain ⟨z, hz, rfl, hgz, hbz⟩ := hrel
       have HZ := hid hz
       have HGZ := hid hgz
       have hbwz := HBWQ.out.trans (hbz.mono HBWQ.out.size)
       clear hgz
       by_cases hzl : z < y.ins.length
       ·obtain ⟨ib, ioff, hia, hib, va, vf', _, _, _, _, _, i5, i6, hva, hvf⟩ := (HIN.out.below insStays hbz).at z hzl
        subst hia
        have HTZ := hid (fun hq => good_take (q := GoodI) hzl HGZ.out hq)
        have hz300 : z ≤ 20000 := by omega
        clear hz
        obtain ⟨va1, vc1, rfl, hl1⟩ := ints_slice hva
        obtain ⟨vf1, vfc1, rfl, hl2⟩ := ints_slice hvf
        clear hva hvf
        generalize y.ins[z] = u at *
        by_cases ha : u.args.length ≤ 20
        rotate_left
        ·have ha2 : (20 : Int) < u.args.length := by omega
         go_wp2
         all_goals (try (exfalso; omega))
         go_ret
         exact ⟨true, rfl, (fun h => by cases h), hbwz⟩
        have ha2 : ¬ (20 : Int) < u.args.length := by omega
        by_cases hf2 : u.frm.length ≤ 20
        rotate_left
        ·have ha3 : (20 : Int) < u.frm.length := by omega
         go_wp2
         all_goals (try (exfalso; omega))
         go_ret
         exact ⟨true, rfl, (fun h => by cases h), hbwz⟩
        have ha3 : ¬ (20 : Int) < u.frm.length := by omega
        have HT2 := hid (HTZ.out ⟨ha, hf2⟩)
        clear HTZ
        go_wp2
        all_goals (try (exfalso; omega))
        go_roundg (gk - 1)
        case measure => have := HZ.out; omega
        case rel => exact ⟨z + 1, by have := HZ.out; omega, by go_num, HT2.out, hbz⟩
       ·obtain rfl : z = y.ins.length := by omega
        have HT2 := hid (HTB.out (good_all HGZ.out))
        have hboz := HBQ.out.trans (hbz.mono HBQ.out.size)
        clear hz
        go_wp2
        all_goals (try (exfalso; omega))
        go_roundg (gq - 1)
        case measure => have := HQ.out; omega
        case rel => exact ⟨q + 1, M + y.ins.length, by have := HQ.out; omega, by go_num, by go_num, by simpa using hM2, by have := HMB.out; rw [HMT.out]; omega, HT2.out, hboz⟩
     ·obtain rfl : q = x.blocks.length := by omega
      have HTF : Hid (∀ f ∈ p.funcs.take (k + 1), GoodF f) := HT.out ⟨h20, by have := HMB.out; rw [List.take_length] at this; omega, good_all HGB.out⟩
      clear hq
      go_wp2
      all_goals (try (exfalso; omega))
      go_roundg (go - 1)
      case measure => have := HK1.out; omega
      case rel => exact ⟨k + 1, M, by have := HK1.out; omega, by go_num, rfl, hM, HTF.out, hb1q⟩
   ·obtain rfl : k = p.funcs.length := by omega
    have HALL := hid (good_all HGOOD.out)
    clear hk
    generalize hn2 : p.funcs.length = n2 at *
    have HN2 := hid hn2
    clear hn2
    go_wp2
    go_ret
    exact ⟨false, rfl, fun _ => ⟨Nat.le_trans HSM.out.1 (by decide), fun x hx => Nat.le_trans (HSM.out.2 x hx) (by decide), by rw [HN2.out]; omega, fun f hf => Nat.le_trans (HALL.out f hf).1 (by decide), fun f hf => by have := (HALL.out f hf).2.1; omega, fun f hf b hb x hx => ⟨Nat.le_trans ((HALL.out f hf).2.2 b hb x hx).1 (by decide), Nat.le_trans ((HALL.out f hf).2.2 b hb x hx).2 (by decide)⟩⟩, hbw⟩
end Go.Proofs.YtpejpnffcepdlaaGreatDoor.ShR
namespace Go.Proofs.YtpejpnffcepdlaaGreatDoor.ShU
open Go.RowKit Go.Lib SetP IntO TyM TyP TyB ShM ShP ShA ShB

set_option maxRecDepth 100000 in
set_option maxHeartbeats 4000000 in
theorem uses_core (x : Ix) (y : Has) (va vf : Value) (w : World) (ha : IntsAt w va x.args) (hl : x.args.length ≤ 1000) (hvf : ∃ a n c, vf = .slice a n c)
  (hAB : y.b = 3 → y.a = 3 ∧ ¬ 0 < y.most) (HC : Hid (∀ wx, Below w.heap.size w wx → Calls Tryz.prog 46 #[.int .u8 x.op] wx (ValR (hasV y) wx))) :
  Calls Tryz.prog 88 #[ixV x va vf] w (OwnI (usesL (decide (y.a = 3)) (decide (y.b = 3)) (decide (0 < y.most)) x.a x.b x.args) w) := by
 obtain ⟨fa, fn, fc, rfl⟩ := hvf
 have HA := hid ha
 have HLN := hid hl
 obtain ⟨pa, pc, rfl, hpl⟩ := ints_slice ha
 clear ha
 obtain ⟨op, ty, a, b, n, xp, xf⟩ := x
 simp only [hasV] at *
 have hb0 : Below w.heap.size w (w.alloc (.cells #[.int .u8 op, .int .i64 ty, .int .i64 a, .int .i64 b, .int .i64 n, .slice pa xp.length pc, .slice fa fn fc] 31)) := alloc_below _ _
 have HB0 := hid hb0
 obtain ⟨yt, ya, yb, yn, yl, ym, yp⟩ := y
 simp only at *
 have HC1 := hid (HC.out _ hb0)
 clear HC hb0
 by_cases hA : ya = 3 <;> by_cases hB : yb = 3 <;> by_cases hM : 0 < ym
 all_goals try (exfalso; have := hAB hB; omega)
 ·rw [decide_eq_true hA, decide_eq_true hB, decide_eq_false hM]
  subst hA
  subst hB
  clear hAB
  have hlen : Hid (xp.length = xp.length) := rfl
  generalize hxl : xp.length = xl at *
  have HXL := hid hxl
  clear hxl hlen
  go_enter Tryz.func88, Tryz.ntmps88
  go_wp2_with fail
  refine HC1.out.mono ?_
  rintro e w1 ⟨rfl, hb1⟩
  obtain ⟨bc, _, bs, bk⟩ := copyF (alloc_new _ _) hb1 (by simp)
  have hbw := HB0.out.trans (hb1.mono HB0.out.size)
  obtain ⟨W1, hW1⟩ : ∃ W1, W1 = w1.alloc (.cells #[.int .u8 yt, .int .u8 3, .int .u8 3, .int .u8 yn, .int .i64 yl, .int .i64 ym, .int .i64 yp] 89) := ⟨_, rfl⟩
  have HW1 : Hid (Below w.heap.size w W1) := by show Below _ _ _; rw [hW1]; exact hbw.alloc hbw.size _
  have HBX : Hid (W1.heap[w.heap.size]? = some (.cells #[.int .u8 op, .int .i64 ty, .int .i64 a, .int .i64 b, .int .i64 n, .slice pa xl pc, .slice fa fn fc] 31 (0, 0))) := by show _ = _; rw [hW1]; exact alloc_old bk _
  have HBN : Hid (W1.heap[w1.heap.size]? = some (.cells #[.int .u8 yt, .int .u8 3, .int .u8 3, .int .u8 yn, .int .i64 yl, .int .i64 ym, .int .i64 yp] 89 (0, 0))) := by show _ = _; rw [hW1]; exact alloc_new _ _
  have HBL : Hid (w.heap.size < W1.heap.size) := (Array.getElem?_eq_some_iff.1 HBX.out).1
  have HNL : Hid (w1.heap.size < W1.heap.size) := (Array.getElem?_eq_some_iff.1 HBN.out).1
  have HAR := hid (fun wx (h : Below W1.heap.size W1 wx) => HA.out.below (HW1.out.trans (h.mono HW1.out.size)))
  have f0 := bc 0 (by simp); have f2 := bc 2 (by simp); have f3 := bc 3 (by simp); have f5 := bc 5 (by simp)
  simp only [List.getElem_toArray, List.getElem_cons_succ, List.getElem_cons_zero] at f0 f2 f3 f5
  clear bc bk hb1 hbw HC1 HB0 HA
  have HWE := hid hW1
  have HZ : Hid (W1.heap.size = w1.heap.size + 1) := by show _ = _; rw [hW1]; simp
  clear hW1
  have ho1 : (W1.alloc (.cells #[.int .i64 a] 3)).ownsRow W1.heap.size 3 1 (.slice none 0 0) (0) (intVals ([])) := World.ownsRow_nil _ _ _ _
  have HO1 := hid ho1
  have HI1 := hid (ints_one (w := (W1.alloc (.cells #[.int .i64 a] 3))) (b := (w1.heap.size + 1)) (n := a) (cell_new _ _ _ _ HZ.out) (size_new _ _ _ HZ.out))
  have hs1 : W1.heap.size ≤ (W1.alloc (.cells #[.int .i64 a] 3)).heap.size := by simp
  have HV1 := hid ((Below.refl W1.heap.size W1).alloc (Nat.le_refl _) (.cells #[.int .i64 a] 3))
  clear ho1
  go_wp2_with (at_builtin; rw [← HWE.out]; refine wpList_append_ints rfl (.tmp 11) (.tmp 14) rfl W1.heap.size (.slice none 0 0) rfl (0) (intVals ([])) HO1.out (by omega) (.slice (some ⟨(w1.heap.size + 1), 0, none⟩) 1 1) [a] rfl HI1.out (by simp) hs1 ?_)
  intro v1 w1' hown hgr
  have hbe1 := own_grown HV1.out HO1.out hgr hs1
  have HOW : Hid (w1'.ownsRow W1.heap.size 3 1 v1 (1) (intVals ([] ++ [a]))) := by show World.ownsRow _ _ _ _ _ _ _; rw [intVals_append]; exact hown
  have HBE := hid hbe1
  obtain ⟨va1, vc1, rfl⟩ := own_slice hown
  obtain ⟨bc, bf, bs, _⟩ := copyF HBX.out hbe1 HBL.out
  have f0 := bc 0 (by simp); have f2 := bc 2 (by simp); have f3 := bc 3 (by simp); have f5 := bc 5 (by simp)
  simp only [List.getElem_toArray, List.getElem_cons_succ, List.getElem_cons_zero] at f0 f2 f3 f5
  obtain ⟨nc, _, ns, _⟩ := copyF HBN.out hbe1 HNL.out
  have g2 := nc 2 (by simp); have g5 := nc 5 (by simp)
  simp only [List.getElem_toArray, List.getElem_cons_succ, List.getElem_cons_zero] at g2 g5
  clear nc
  clear bc bf hgr hown hbe1 HO1 HI1 hs1 HV1
  have ho2 : (w1'.alloc (.cells #[.int .i64 b] 3)).ownsRow W1.heap.size 3 1 (.slice va1 (1) vc1) (1) (intVals ([] ++ [a])) := HOW.out.alloc _
  have HO2 := hid ho2
  have HI2 := hid (ints_one (w := (w1'.alloc (.cells #[.int .i64 b] 3))) (b := w1'.heap.size) (n := b) (cell_new _ _ _ _ rfl) (size_new _ _ _ rfl))
  have hs2 : W1.heap.size ≤ (w1'.alloc (.cells #[.int .i64 b] 3)).heap.size := by have := HBE.out.size; simp; omega
  have HV2 := hid (HBE.out.alloc HBE.out.size (.cells #[.int .i64 b] 3))
  clear ho2
  clear HOW
  go_wp2_with (at_builtin; refine wpList_append_ints rfl (.tmp 19) (.tmp 22) rfl W1.heap.size (.slice va1 (1) vc1) rfl (1) (intVals ([] ++ [a])) HO2.out (by omega) (.slice (some ⟨w1'.heap.size, 0, none⟩) 1 1) [b] rfl HI2.out (by simp) hs2 ?_)
  intro v2 w2' hown hgr
  have hbe2 := own_grown HV2.out HO2.out hgr hs2
  have HOW : Hid (w2'.ownsRow W1.heap.size 3 1 v2 (2) (intVals ([] ++ [a] ++ [b]))) := by show World.ownsRow _ _ _ _ _ _ _; rw [intVals_append]; exact hown
  clear HBE
  have HBE := hid hbe2
  obtain ⟨va2, vc2, rfl⟩ := own_slice hown
  obtain ⟨bc, bf, bs, _⟩ := copyF HBX.out hbe2 HBL.out
  have f0 := bc 0 (by simp); have f2 := bc 2 (by simp); have f3 := bc 3 (by simp); have f5 := bc 5 (by simp)
  simp only [List.getElem_toArray, List.getElem_cons_succ, List.getElem_cons_zero] at f0 f2 f3 f5
  obtain ⟨nc, _, ns, _⟩ := copyF HBN.out hbe2 HNL.out
  have g2 := nc 2 (by simp); have g5 := nc 5 (by simp)
  simp only [List.getElem_toArray, List.getElem_cons_succ, List.getElem_cons_zero] at g2 g5
  clear nc
  clear bc bf hgr hown hbe2 HO2 HI2 hs2 HV2
  go_wp2
  go_ret
  refine ⟨(.slice va2 (2) vc2), 2, rfl, ?_, HW1.out.trans (HBE.out.mono HW1.out.size)⟩
  have := owns_base HOW.out HW1.out.size
  simpa [usesL] using this
 ·rw [decide_eq_true hA, decide_eq_false hB, decide_eq_true hM]
  subst hA
  have ehB : (yb == 3) = false := by simpa using hB
  clear hAB
  have hlen : Hid (xp.length = xp.length) := rfl
  generalize hxl : xp.length = xl at *
  have HXL := hid hxl
  clear hxl hlen
  go_enter Tryz.func88, Tryz.ntmps88
  go_wp2_with fail
  refine HC1.out.mono ?_
  rintro e w1 ⟨rfl, hb1⟩
  obtain ⟨bc, _, bs, bk⟩ := copyF (alloc_new _ _) hb1 (by simp)
  have hbw := HB0.out.trans (hb1.mono HB0.out.size)
  obtain ⟨W1, hW1⟩ : ∃ W1, W1 = w1.alloc (.cells #[.int .u8 yt, .int .u8 3, .int .u8 yb, .int .u8 yn, .int .i64 yl, .int .i64 ym, .int .i64 yp] 89) := ⟨_, rfl⟩
  have HW1 : Hid (Below w.heap.size w W1) := by show Below _ _ _; rw [hW1]; exact hbw.alloc hbw.size _
  have HBX : Hid (W1.heap[w.heap.size]? = some (.cells #[.int .u8 op, .int .i64 ty, .int .i64 a, .int .i64 b, .int .i64 n, .slice pa xl pc, .slice fa fn fc] 31 (0, 0))) := by show _ = _; rw [hW1]; exact alloc_old bk _
  have HBN : Hid (W1.heap[w1.heap.size]? = some (.cells #[.int .u8 yt, .int .u8 3, .int .u8 yb, .int .u8 yn, .int .i64 yl, .int .i64 ym, .int .i64 yp] 89 (0, 0))) := by show _ = _; rw [hW1]; exact alloc_new _ _
  have HBL : Hid (w.heap.size < W1.heap.size) := (Array.getElem?_eq_some_iff.1 HBX.out).1
  have HNL : Hid (w1.heap.size < W1.heap.size) := (Array.getElem?_eq_some_iff.1 HBN.out).1
  have HAR := hid (fun wx (h : Below W1.heap.size W1 wx) => HA.out.below (HW1.out.trans (h.mono HW1.out.size)))
  have f0 := bc 0 (by simp); have f2 := bc 2 (by simp); have f3 := bc 3 (by simp); have f5 := bc 5 (by simp)
  simp only [List.getElem_toArray, List.getElem_cons_succ, List.getElem_cons_zero] at f0 f2 f3 f5
  clear bc bk hb1 hbw HC1 HB0 HA
  have HWE := hid hW1
  have HZ : Hid (W1.heap.size = w1.heap.size + 1) := by show _ = _; rw [hW1]; simp
  clear hW1
  have ho1 : (W1.alloc (.cells #[.int .i64 a] 3)).ownsRow W1.heap.size 3 1 (.slice none 0 0) (0) (intVals ([])) := World.ownsRow_nil _ _ _ _
  have HO1 := hid ho1
  have HI1 := hid (ints_one (w := (W1.alloc (.cells #[.int .i64 a] 3))) (b := (w1.heap.size + 1)) (n := a) (cell_new _ _ _ _ HZ.out) (size_new _ _ _ HZ.out))
  have hs1 : W1.heap.size ≤ (W1.alloc (.cells #[.int .i64 a] 3)).heap.size := by simp
  have HV1 := hid ((Below.refl W1.heap.size W1).alloc (Nat.le_refl _) (.cells #[.int .i64 a] 3))
  clear ho1
  go_wp2_with (at_builtin; rw [← HWE.out]; refine wpList_append_ints rfl (.tmp 11) (.tmp 14) rfl W1.heap.size (.slice none 0 0) rfl (0) (intVals ([])) HO1.out (by omega) (.slice (some ⟨(w1.heap.size + 1), 0, none⟩) 1 1) [a] rfl HI1.out (by simp) hs1 ?_)
  intro v1 w1' hown hgr
  have hbe1 := own_grown HV1.out HO1.out hgr hs1
  have HOW : Hid (w1'.ownsRow W1.heap.size 3 1 v1 (1) (intVals ([] ++ [a]))) := by show World.ownsRow _ _ _ _ _ _ _; rw [intVals_append]; exact hown
  have HBE := hid hbe1
  obtain ⟨va1, vc1, rfl⟩ := own_slice hown
  obtain ⟨bc, bf, bs, _⟩ := copyF HBX.out hbe1 HBL.out
  have f0 := bc 0 (by simp); have f2 := bc 2 (by simp); have f3 := bc 3 (by simp); have f5 := bc 5 (by simp)
  simp only [List.getElem_toArray, List.getElem_cons_succ, List.getElem_cons_zero] at f0 f2 f3 f5
  obtain ⟨nc, _, ns, _⟩ := copyF HBN.out hbe1 HNL.out
  have g2 := nc 2 (by simp); have g5 := nc 5 (by simp)
  simp only [List.getElem_toArray, List.getElem_cons_succ, List.getElem_cons_zero] at g2 g5
  clear nc
  clear bc bf hgr hown hbe1 HO1 HI1 hs1 HV1
  have HO2 : Hid (w1'.ownsRow W1.heap.size 3 1 (.slice va1 (1) vc1) (1) (intVals ([] ++ [a]))) := HOW.out
  have HI2 := hid (HAR.out w1' HBE.out)
  have hs2 : W1.heap.size ≤ w1'.heap.size := HBE.out.size
  have HV2 := hid (HBE.out)
  skip
  clear HOW
  go_wp2_with (at_builtin; refine wpList_append_ints rfl (.tmp 27) (.tmp 29) rfl W1.heap.size (.slice va1 (1) vc1) rfl (1) (intVals ([] ++ [a])) HO2.out (by omega) (.slice pa xl pc) xp rfl HI2.out (by have := HLN.out; have := HXL.out; omega) hs2 ?_)
  intro v2 w2' hown hgr
  have hbe2 := own_grown HV2.out HO2.out hgr hs2
  have HOW : Hid (w2'.ownsRow W1.heap.size 3 1 v2 (1 + xp.length) (intVals ([] ++ [a] ++ xp))) := by show World.ownsRow _ _ _ _ _ _ _; rw [intVals_append]; exact hown
  clear HBE
  have HBE := hid hbe2
  obtain ⟨va2, vc2, rfl⟩ := own_slice hown
  obtain ⟨bc, bf, bs, _⟩ := copyF HBX.out hbe2 HBL.out
  have f0 := bc 0 (by simp); have f2 := bc 2 (by simp); have f3 := bc 3 (by simp); have f5 := bc 5 (by simp)
  simp only [List.getElem_toArray, List.getElem_cons_succ, List.getElem_cons_zero] at f0 f2 f3 f5
  obtain ⟨nc, _, ns, _⟩ := copyF HBN.out hbe2 HNL.out
  have g2 := nc 2 (by simp); have g5 := nc 5 (by simp)
  simp only [List.getElem_toArray, List.getElem_cons_succ, List.getElem_cons_zero] at g2 g5
  clear nc
  clear bc bf hgr hown hbe2 HO2 HI2 hs2 HV2
  go_wp2
  go_ret
  refine ⟨(.slice va2 (1 + xp.length) vc2), 1 + xp.length, rfl, ?_, HW1.out.trans (HBE.out.mono HW1.out.size)⟩
  have := owns_base HOW.out HW1.out.size
  simpa [usesL] using this
 ·rw [decide_eq_true hA, decide_eq_false hB, decide_eq_false hM]
  subst hA
  have ehB : (yb == 3) = false := by simpa using hB
  clear hAB
  have hlen : Hid (xp.length = xp.length) := rfl
  generalize hxl : xp.length = xl at *
  have HXL := hid hxl
  clear hxl hlen
  go_enter Tryz.func88, Tryz.ntmps88
  go_wp2_with fail
  refine HC1.out.mono ?_
  rintro e w1 ⟨rfl, hb1⟩
  obtain ⟨bc, _, bs, bk⟩ := copyF (alloc_new _ _) hb1 (by simp)
  have hbw := HB0.out.trans (hb1.mono HB0.out.size)
  obtain ⟨W1, hW1⟩ : ∃ W1, W1 = w1.alloc (.cells #[.int .u8 yt, .int .u8 3, .int .u8 yb, .int .u8 yn, .int .i64 yl, .int .i64 ym, .int .i64 yp] 89) := ⟨_, rfl⟩
  have HW1 : Hid (Below w.heap.size w W1) := by show Below _ _ _; rw [hW1]; exact hbw.alloc hbw.size _
  have HBX : Hid (W1.heap[w.heap.size]? = some (.cells #[.int .u8 op, .int .i64 ty, .int .i64 a, .int .i64 b, .int .i64 n, .slice pa xl pc, .slice fa fn fc] 31 (0, 0))) := by show _ = _; rw [hW1]; exact alloc_old bk _
  have HBN : Hid (W1.heap[w1.heap.size]? = some (.cells #[.int .u8 yt, .int .u8 3, .int .u8 yb, .int .u8 yn, .int .i64 yl, .int .i64 ym, .int .i64 yp] 89 (0, 0))) := by show _ = _; rw [hW1]; exact alloc_new _ _
  have HBL : Hid (w.heap.size < W1.heap.size) := (Array.getElem?_eq_some_iff.1 HBX.out).1
  have HNL : Hid (w1.heap.size < W1.heap.size) := (Array.getElem?_eq_some_iff.1 HBN.out).1
  have HAR := hid (fun wx (h : Below W1.heap.size W1 wx) => HA.out.below (HW1.out.trans (h.mono HW1.out.size)))
  have f0 := bc 0 (by simp); have f2 := bc 2 (by simp); have f3 := bc 3 (by simp); have f5 := bc 5 (by simp)
  simp only [List.getElem_toArray, List.getElem_cons_succ, List.getElem_cons_zero] at f0 f2 f3 f5
  clear bc bk hb1 hbw HC1 HB0 HA
  have HWE := hid hW1
  have HZ : Hid (W1.heap.size = w1.heap.size + 1) := by show _ = _; rw [hW1]; simp
  clear hW1
  have ho1 : (W1.alloc (.cells #[.int .i64 a] 3)).ownsRow W1.heap.size 3 1 (.slice none 0 0) (0) (intVals ([])) := World.ownsRow_nil _ _ _ _
  have HO1 := hid ho1
  have HI1 := hid (ints_one (w := (W1.alloc (.cells #[.int .i64 a] 3))) (b := (w1.heap.size + 1)) (n := a) (cell_new _ _ _ _ HZ.out) (size_new _ _ _ HZ.out))
  have hs1 : W1.heap.size ≤ (W1.alloc (.cells #[.int .i64 a] 3)).heap.size := by simp
  have HV1 := hid ((Below.refl W1.heap.size W1).alloc (Nat.le_refl _) (.cells #[.int .i64 a] 3))
  clear ho1
  go_wp2_with (at_builtin; rw [← HWE.out]; refine wpList_append_ints rfl (.tmp 11) (.tmp 14) rfl W1.heap.size (.slice none 0 0) rfl (0) (intVals ([])) HO1.out (by omega) (.slice (some ⟨(w1.heap.size + 1), 0, none⟩) 1 1) [a] rfl HI1.out (by simp) hs1 ?_)
  intro v1 w1' hown hgr
  have hbe1 := own_grown HV1.out HO1.out hgr hs1
  have HOW : Hid (w1'.ownsRow W1.heap.size 3 1 v1 (1) (intVals ([] ++ [a]))) := by show World.ownsRow _ _ _ _ _ _ _; rw [intVals_append]; exact hown
  have HBE := hid hbe1
  obtain ⟨va1, vc1, rfl⟩ := own_slice hown
  obtain ⟨bc, bf, bs, _⟩ := copyF HBX.out hbe1 HBL.out
  have f0 := bc 0 (by simp); have f2 := bc 2 (by simp); have f3 := bc 3 (by simp); have f5 := bc 5 (by simp)
  simp only [List.getElem_toArray, List.getElem_cons_succ, List.getElem_cons_zero] at f0 f2 f3 f5
  obtain ⟨nc, _, ns, _⟩ := copyF HBN.out hbe1 HNL.out
  have g2 := nc 2 (by simp); have g5 := nc 5 (by simp)
  simp only [List.getElem_toArray, List.getElem_cons_succ, List.getElem_cons_zero] at g2 g5
  clear nc
  clear bc bf hgr hown hbe1 HO1 HI1 hs1 HV1
  go_wp2
  go_ret
  refine ⟨(.slice va1 (1) vc1), 1, rfl, ?_, HW1.out.trans (HBE.out.mono HW1.out.size)⟩
  have := owns_base HOW.out HW1.out.size
  simpa [usesL] using this
 ·rw [decide_eq_false hA, decide_eq_false hB, decide_eq_true hM]
  have ehA : (ya == 3) = false := by simpa using hA
  have ehB : (yb == 3) = false := by simpa using hB
  clear hAB
  have hlen : Hid (xp.length = xp.length) := rfl
  generalize hxl : xp.length = xl at *
  have HXL := hid hxl
  clear hxl hlen
  go_enter Tryz.func88, Tryz.ntmps88
  go_wp2_with fail
  refine HC1.out.mono ?_
  rintro e w1 ⟨rfl, hb1⟩
  obtain ⟨bc, _, bs, bk⟩ := copyF (alloc_new _ _) hb1 (by simp)
  have hbw := HB0.out.trans (hb1.mono HB0.out.size)
  obtain ⟨W1, hW1⟩ : ∃ W1, W1 = w1.alloc (.cells #[.int .u8 yt, .int .u8 ya, .int .u8 yb, .int .u8 yn, .int .i64 yl, .int .i64 ym, .int .i64 yp] 89) := ⟨_, rfl⟩
  have HW1 : Hid (Below w.heap.size w W1) := by show Below _ _ _; rw [hW1]; exact hbw.alloc hbw.size _
  have HBX : Hid (W1.heap[w.heap.size]? = some (.cells #[.int .u8 op, .int .i64 ty, .int .i64 a, .int .i64 b, .int .i64 n, .slice pa xl pc, .slice fa fn fc] 31 (0, 0))) := by show _ = _; rw [hW1]; exact alloc_old bk _
  have HBN : Hid (W1.heap[w1.heap.size]? = some (.cells #[.int .u8 yt, .int .u8 ya, .int .u8 yb, .int .u8 yn, .int .i64 yl, .int .i64 ym, .int .i64 yp] 89 (0, 0))) := by show _ = _; rw [hW1]; exact alloc_new _ _
  have HBL : Hid (w.heap.size < W1.heap.size) := (Array.getElem?_eq_some_iff.1 HBX.out).1
  have HNL : Hid (w1.heap.size < W1.heap.size) := (Array.getElem?_eq_some_iff.1 HBN.out).1
  have HAR := hid (fun wx (h : Below W1.heap.size W1 wx) => HA.out.below (HW1.out.trans (h.mono HW1.out.size)))
  have f0 := bc 0 (by simp); have f2 := bc 2 (by simp); have f3 := bc 3 (by simp); have f5 := bc 5 (by simp)
  simp only [List.getElem_toArray, List.getElem_cons_succ, List.getElem_cons_zero] at f0 f2 f3 f5
  clear bc bk hb1 hbw HC1 HB0 HA
  have HWE := hid hW1
  have HZ : Hid (W1.heap.size = w1.heap.size + 1) := by show _ = _; rw [hW1]; simp
  clear hW1
  have HO1 : Hid (W1.ownsRow W1.heap.size 3 1 (.slice none 0 0) (0) (intVals ([]))) := World.ownsRow_nil _ _ _ _
  have HI1 := hid (HAR.out W1 (Below.refl _ _))
  have hs1 : W1.heap.size ≤ W1.heap.size := Nat.le_refl _
  have HV1 := hid (Below.refl W1.heap.size W1)
  skip
  go_wp2_with (at_builtin; rw [← HWE.out]; refine wpList_append_ints rfl (.tmp 27) (.tmp 29) rfl W1.heap.size (.slice none 0 0) rfl (0) (intVals ([])) HO1.out (by omega) (.slice pa xl pc) xp rfl HI1.out (by have := HLN.out; have := HXL.out; omega) hs1 ?_)
  intro v1 w1' hown hgr
  have hbe1 := own_grown HV1.out HO1.out hgr hs1
  have HOW : Hid (w1'.ownsRow W1.heap.size 3 1 v1 (xp.length) (intVals ([] ++ xp))) := by show World.ownsRow _ _ _ _ _ _ _; rw [intVals_append]; exact hown
  have HBE := hid hbe1
  obtain ⟨va1, vc1, rfl⟩ := own_slice hown
  obtain ⟨bc, bf, bs, _⟩ := copyF HBX.out hbe1 HBL.out
  have f0 := bc 0 (by simp); have f2 := bc 2 (by simp); have f3 := bc 3 (by simp); have f5 := bc 5 (by simp)
  simp only [List.getElem_toArray, List.getElem_cons_succ, List.getElem_cons_zero] at f0 f2 f3 f5
  obtain ⟨nc, _, ns, _⟩ := copyF HBN.out hbe1 HNL.out
  have g2 := nc 2 (by simp); have g5 := nc 5 (by simp)
  simp only [List.getElem_toArray, List.getElem_cons_succ, List.getElem_cons_zero] at g2 g5
  clear nc
  clear bc bf hgr hown hbe1 HO1 HI1 hs1 HV1
  go_wp2
  go_ret
  refine ⟨(.slice va1 (xp.length) vc1), xp.length, rfl, ?_, HW1.out.trans (HBE.out.mono HW1.out.size)⟩
  have := owns_base HOW.out HW1.out.size
  simpa [usesL] using this
 ·rw [decide_eq_false hA, decide_eq_false hB, decide_eq_false hM]
  have ehA : (ya == 3) = false := by simpa using hA
  have ehB : (yb == 3) = false := by simpa using hB
  clear hAB
  have hlen : Hid (xp.length = xp.length) := rfl
  generalize hxl : xp.length = xl at *
  have HXL := hid hxl
  clear hxl hlen
  go_enter Tryz.func88, Tryz.ntmps88
  go_wp2_with fail
  refine HC1.out.mono ?_
  rintro e w1 ⟨rfl, hb1⟩
  obtain ⟨bc, _, bs, bk⟩ := copyF (alloc_new _ _) hb1 (by simp)
  have hbw := HB0.out.trans (hb1.mono HB0.out.size)
  obtain ⟨W1, hW1⟩ : ∃ W1, W1 = w1.alloc (.cells #[.int .u8 yt, .int .u8 ya, .int .u8 yb, .int .u8 yn, .int .i64 yl, .int .i64 ym, .int .i64 yp] 89) := ⟨_, rfl⟩
  have HW1 : Hid (Below w.heap.size w W1) := by show Below _ _ _; rw [hW1]; exact hbw.alloc hbw.size _
  have HBX : Hid (W1.heap[w.heap.size]? = some (.cells #[.int .u8 op, .int .i64 ty, .int .i64 a, .int .i64 b, .int .i64 n, .slice pa xl pc, .slice fa fn fc] 31 (0, 0))) := by show _ = _; rw [hW1]; exact alloc_old bk _
  have HBN : Hid (W1.heap[w1.heap.size]? = some (.cells #[.int .u8 yt, .int .u8 ya, .int .u8 yb, .int .u8 yn, .int .i64 yl, .int .i64 ym, .int .i64 yp] 89 (0, 0))) := by show _ = _; rw [hW1]; exact alloc_new _ _
  have HBL : Hid (w.heap.size < W1.heap.size) := (Array.getElem?_eq_some_iff.1 HBX.out).1
  have HNL : Hid (w1.heap.size < W1.heap.size) := (Array.getElem?_eq_some_iff.1 HBN.out).1
  have HAR := hid (fun wx (h : Below W1.heap.size W1 wx) => HA.out.below (HW1.out.trans (h.mono HW1.out.size)))
  have f0 := bc 0 (by simp); have f2 := bc 2 (by simp); have f3 := bc 3 (by simp); have f5 := bc 5 (by simp)
  simp only [List.getElem_toArray, List.getElem_cons_succ, List.getElem_cons_zero] at f0 f2 f3 f5
  clear bc bk hb1 hbw HC1 HB0 HA
  have HWE := hid hW1
  have HZ : Hid (W1.heap.size = w1.heap.size + 1) := by show _ = _; rw [hW1]; simp
  clear hW1
  go_wp2
  go_ret
  exact ⟨_, 0, rfl, World.ownsRow_nil _ _ _ _, by rw [← HWE.out]; exact HW1.out⟩

theorem uses_calls (x : Ix) (va vf : Value) (w : World) (h0 : 0 ≤ x.op) (h2 : x.op ≤ 255) (ht : Tab w) (ha : IntsAt w va x.args) (hl : x.args.length ≤ 1000) (hvf : ∃ a n c, vf = .slice a n c) :
  Calls Tryz.prog 88 #[ixV x va vf] w (OwnI (usesOf x) w) := by
 rw [uses_tells x h0]
 have hAB : (hasOf x.op).b = 3 → (hasOf x.op).a = 3 ∧ ¬ 0 < (hasOf x.op).most := by
  rcases op_cases h0 with ⟨k, hk⟩ | h
  ·rw [hk]
   exact (by decide : ∀ k : Fin 23, (hasOf (k.val : Int)).b = 3 → (hasOf (k.val : Int)).a = 3 ∧ ¬ 0 < (hasOf (k.val : Int)).most) k
  ·rw [hasOf_over h]; decide
 exact uses_core x (hasOf x.op) va vf w ha hl hvf hAB (fun wx hb => row_calls x.op h0 h2 wx (ht.on hb))

end Go.Proofs.YtpejpnffcepdlaaGreatDoor.ShU
namespace Go.Proofs.YtpejpnffcepdlaaGreatDoor.ShW
open Go.RowKit Go.Lib SetP IntO TyM TyP TyB ShM ShP ShA ShB

theorem own_one (w : World) (n : Int) : (w.alloc (.cells #[.int .i64 n] 3)).ownsRow w.heap.size 3 1 (.slice (some ⟨w.heap.size, 0, none⟩) 1 1) 1 (intVals [n]) :=
 ownsRow_lit w [.int .i64 n] 3 1 rfl (by decide)
end Go.Proofs.YtpejpnffcepdlaaGreatDoor.ShW
namespace Go.Proofs.YtpejpnffcepdlaaGreatDoor.ShW
open Go.RowKit Go.Lib SetP IntO TyM TyP TyB ShM ShP ShA ShB

set_option maxRecDepth 100000 in
theorem ends_core (x : Ex) (y : HasE) (w : World) (HC : Hid (∀ wx, Below w.heap.size w wx → Calls Tryz.prog 137 #[.int .u8 x.kind] wx (ValR (hasEV y) wx))) :
  Calls Tryz.prog 89 #[exV x] w (OwnI (if y.a = 3 then [x.a] else []) w) := by
 obtain ⟨k, a, t, e⟩ := x
 obtain ⟨ya, yt, ye⟩ := y
 have hb0 := alloc_below w (.cells #[.int .u8 k, .int .i64 a, .int .i64 t, .int .i64 e] 35)
 simp only [hasEV] at *
 have HC1 := hid (HC.out _ hb0)
 have HB0 := hid hb0
 clear HC hb0
 by_cases h : ya = 3
 ·rw [if_pos h]
  subst h
  have HF := fun w => field_hasE w 3 yt ye
  go_enter Tryz.func89, Tryz.ntmps89
  go_wp2_with fail
  refine HC1.out.mono ?_
  rintro e w1 ⟨rfl, hb1⟩
  obtain ⟨f1, _, s1, k1⟩ := copyF (alloc_new _ _) hb1 (by simp only [World.size_alloc]; omega)
  have c1 := f1 1 (by simp)
  simp only [List.getElem_toArray, List.getElem_cons_succ, List.getElem_cons_zero] at c1
  have hbe := HB0.out.trans (hb1.mono HB0.out.size)
  clear HC1 hb1 f1 k1
  go_wp2
  go_ret
  exact ⟨_, 1, rfl, owns_base (own_one _ _) hbe.size, hbe.alloc hbe.size _⟩
 ·rw [if_neg h]
  have HF := fun w => field_hasE w ya yt ye
  have e1 : (ya == 3) = false := by simpa using h
  go_enter Tryz.func89, Tryz.ntmps89
  go_wp2_with fail
  refine HC1.out.mono ?_
  rintro e w1 ⟨rfl, hb1⟩
  have hbe := HB0.out.trans (hb1.mono HB0.out.size)
  clear HC1 hb1
  go_wp2
  go_ret
  exact ⟨_, 0, rfl, World.ownsRow_nil _ _ _ _, hbe⟩
theorem ends_calls (x : Ex) (w : World) (h0 : 0 ≤ x.kind) (h2 : x.kind ≤ 255) (ht : Tab w) : Calls Tryz.prog 89 #[exV x] w (OwnI (endsOf x) w) := by
 have : endsOf x = if (hasEOf x.kind).a = 3 then [x.a] else [] := by
  unfold endsOf
  by_cases h : x.kind = 2 ∨ x.kind = 3
  ·rw [if_pos h, if_pos ((hase_tells h0).2 h)]
  ·rw [if_neg h, if_neg (fun e => h ((hase_tells h0).1 e))]
 rw [this]
 exact ends_core x (hasEOf x.kind) w (fun wx hb => rowE_calls x.kind h0 h2 wx (ht.on hb))
end Go.Proofs.YtpejpnffcepdlaaGreatDoor.ShW
