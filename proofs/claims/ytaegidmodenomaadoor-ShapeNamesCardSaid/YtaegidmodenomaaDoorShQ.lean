/- Structs compared: ends, and what an instruction, or an end, has. -/
import Derived.Test.YtaegidmodenomaaDoorShB
import Derived.Laws.StructEq
namespace Go.Proofs.YtaegidmodenomaaDoor.ShQ
open Go.RowKit Go.Lib SetP IntO TyM TyP TyB ShM ShP ShA ShB

theorem exHeld : Tryd.prog.stoodInHeld 35 = false := by kernel_rfl
theorem exFields : (Tryd.prog.fieldsOf 35).toList.map (fun f => (f.name == "_", f.type, f.offset)) = [(false, 5, 0), (false, 3, 1), (false, 3, 2), (false, 3, 3)] := by kernel_rfl
theorem exUnder : Tryd.prog.underlying 35 = some (.struct (Tryd.prog.fieldsOf 35)) := by kernel_rfl
set_option maxHeartbeats 1000000 in
theorem eql_ex (x0 x1 x2 x3 y0 y1 y2 y3 : Int) (w : World) : (binOp .eql 35 (.agg #[.int .u8 x0, .int .i64 x1, .int .i64 x2, .int .i64 x3]) (.agg #[.int .u8 y0, .int .i64 y1, .int .i64 y2, .int .i64 y3])).run Tryd.prog w = .ok (.bool ((x0 == y0) && ((x1 == y1) && ((x2 == y2) && (x3 == y3))))) w := by
  rw [run_eql_struct, run_equalIn_struct w 9999 _ _ _ exUnder exHeld]
  have hf := exFields
  generalize (Tryd.prog.fieldsOf 35).toList = fs at hf
  rcases fs with _ | ⟨f0, _ | ⟨f1, _ | ⟨f2, _ | ⟨f3, _ | ⟨g, t⟩⟩⟩⟩⟩
  · simp at hf
  · simp at hf
  · simp at hf
  · simp at hf
  · simp only [List.map_cons, List.map_nil, List.cons.injEq, Prod.mk.injEq, and_true] at hf
    obtain ⟨⟨a0, b0, c0⟩, ⟨a1, b1, c1⟩, ⟨a2, b2, c2⟩, a3, b3, c3⟩ := hf
    have n0 : f0.name ≠ "_" := by simpa using a0
    have n1 : f1.name ≠ "_" := by simpa using a1
    have n2 : f2.name ≠ "_" := by simpa using a2
    have n3 : f3.name ≠ "_" := by simpa using a3
    simp only [Op.eqFields, ne_eq, n0, n1, n2, n3, not_false_eq_true, if_true, b0, c0, b1, c1, b2, c2, b3, c3]
    have ui64 := Tryd.underlying3
    have uu8 := Tryd.underlying5
    simp [go_sem, ui64, uu8]
    all_goals (try (repeat' split) <;> simp_all)
  · simp at hf
set_option maxHeartbeats 1000000 in
theorem neq_ex (x0 x1 x2 x3 y0 y1 y2 y3 : Int) (w : World) : (binOp .neq 35 (.agg #[.int .u8 x0, .int .i64 x1, .int .i64 x2, .int .i64 x3]) (.agg #[.int .u8 y0, .int .i64 y1, .int .i64 y2, .int .i64 y3])).run Tryd.prog w = .ok (.bool (!((x0 == y0) && ((x1 == y1) && ((x2 == y2) && (x3 == y3)))))) w := by
  rw [run_neq_struct, run_equalIn_struct w 9999 _ _ _ exUnder exHeld]
  have hf := exFields
  generalize (Tryd.prog.fieldsOf 35).toList = fs at hf
  rcases fs with _ | ⟨f0, _ | ⟨f1, _ | ⟨f2, _ | ⟨f3, _ | ⟨g, t⟩⟩⟩⟩⟩
  · simp at hf
  · simp at hf
  · simp at hf
  · simp at hf
  · simp only [List.map_cons, List.map_nil, List.cons.injEq, Prod.mk.injEq, and_true] at hf
    obtain ⟨⟨a0, b0, c0⟩, ⟨a1, b1, c1⟩, ⟨a2, b2, c2⟩, a3, b3, c3⟩ := hf
    have n0 : f0.name ≠ "_" := by simpa using a0
    have n1 : f1.name ≠ "_" := by simpa using a1
    have n2 : f2.name ≠ "_" := by simpa using a2
    have n3 : f3.name ≠ "_" := by simpa using a3
    simp only [Op.eqFields, ne_eq, n0, n1, n2, n3, not_false_eq_true, if_true, b0, c0, b1, c1, b2, c2, b3, c3]
    have ui64 := Tryd.underlying3
    have uu8 := Tryd.underlying5
    simp [go_sem, ui64, uu8]
    all_goals (try (repeat' split) <;> simp_all)
  · simp at hf
theorem hEHeld : Tryd.prog.stoodInHeld 91 = false := by kernel_rfl
theorem hEFields : (Tryd.prog.fieldsOf 91).toList.map (fun f => (f.name == "_", f.type, f.offset)) = [(false, 5, 0), (false, 5, 1), (false, 5, 2)] := by kernel_rfl
theorem hEUnder : Tryd.prog.underlying 91 = some (.struct (Tryd.prog.fieldsOf 91)) := by kernel_rfl
set_option maxHeartbeats 1000000 in
theorem eql_hE (x0 x1 x2 y0 y1 y2 : Int) (w : World) : (binOp .eql 91 (.agg #[.int .u8 x0, .int .u8 x1, .int .u8 x2]) (.agg #[.int .u8 y0, .int .u8 y1, .int .u8 y2])).run Tryd.prog w = .ok (.bool ((x0 == y0) && ((x1 == y1) && (x2 == y2)))) w := by
  rw [run_eql_struct, run_equalIn_struct w 9999 _ _ _ hEUnder hEHeld]
  have hf := hEFields
  generalize (Tryd.prog.fieldsOf 91).toList = fs at hf
  rcases fs with _ | ⟨f0, _ | ⟨f1, _ | ⟨f2, _ | ⟨g, t⟩⟩⟩⟩
  · simp at hf
  · simp at hf
  · simp at hf
  · simp only [List.map_cons, List.map_nil, List.cons.injEq, Prod.mk.injEq, and_true] at hf
    obtain ⟨⟨a0, b0, c0⟩, ⟨a1, b1, c1⟩, a2, b2, c2⟩ := hf
    have n0 : f0.name ≠ "_" := by simpa using a0
    have n1 : f1.name ≠ "_" := by simpa using a1
    have n2 : f2.name ≠ "_" := by simpa using a2
    simp only [Op.eqFields, ne_eq, n0, n1, n2, not_false_eq_true, if_true, b0, c0, b1, c1, b2, c2]
    have uu8 := Tryd.underlying5
    simp [go_sem, uu8]
    all_goals (try (repeat' split) <;> simp_all)
  · simp at hf
set_option maxHeartbeats 1000000 in
theorem neq_hE (x0 x1 x2 y0 y1 y2 : Int) (w : World) : (binOp .neq 91 (.agg #[.int .u8 x0, .int .u8 x1, .int .u8 x2]) (.agg #[.int .u8 y0, .int .u8 y1, .int .u8 y2])).run Tryd.prog w = .ok (.bool (!((x0 == y0) && ((x1 == y1) && (x2 == y2))))) w := by
  rw [run_neq_struct, run_equalIn_struct w 9999 _ _ _ hEUnder hEHeld]
  have hf := hEFields
  generalize (Tryd.prog.fieldsOf 91).toList = fs at hf
  rcases fs with _ | ⟨f0, _ | ⟨f1, _ | ⟨f2, _ | ⟨g, t⟩⟩⟩⟩
  · simp at hf
  · simp at hf
  · simp at hf
  · simp only [List.map_cons, List.map_nil, List.cons.injEq, Prod.mk.injEq, and_true] at hf
    obtain ⟨⟨a0, b0, c0⟩, ⟨a1, b1, c1⟩, a2, b2, c2⟩ := hf
    have n0 : f0.name ≠ "_" := by simpa using a0
    have n1 : f1.name ≠ "_" := by simpa using a1
    have n2 : f2.name ≠ "_" := by simpa using a2
    simp only [Op.eqFields, ne_eq, n0, n1, n2, not_false_eq_true, if_true, b0, c0, b1, c1, b2, c2]
    have uu8 := Tryd.underlying5
    simp [go_sem, uu8]
    all_goals (try (repeat' split) <;> simp_all)
  · simp at hf
theorem hIHeld : Tryd.prog.stoodInHeld 88 = false := by kernel_rfl
theorem hIFields : (Tryd.prog.fieldsOf 88).toList.map (fun f => (f.name == "_", f.type, f.offset)) = [(false, 5, 0), (false, 5, 1), (false, 5, 2), (false, 5, 3), (false, 3, 4), (false, 3, 5), (false, 3, 6)] := by kernel_rfl
theorem hIUnder : Tryd.prog.underlying 88 = some (.struct (Tryd.prog.fieldsOf 88)) := by kernel_rfl
set_option maxHeartbeats 1000000 in
theorem eql_hI (x0 x1 x2 x3 x4 x5 x6 y0 y1 y2 y3 y4 y5 y6 : Int) (w : World) : (binOp .eql 88 (.agg #[.int .u8 x0, .int .u8 x1, .int .u8 x2, .int .u8 x3, .int .i64 x4, .int .i64 x5, .int .i64 x6]) (.agg #[.int .u8 y0, .int .u8 y1, .int .u8 y2, .int .u8 y3, .int .i64 y4, .int .i64 y5, .int .i64 y6])).run Tryd.prog w = .ok (.bool ((x0 == y0) && ((x1 == y1) && ((x2 == y2) && ((x3 == y3) && ((x4 == y4) && ((x5 == y5) && (x6 == y6)))))))) w := by
  rw [run_eql_struct, run_equalIn_struct w 9999 _ _ _ hIUnder hIHeld]
  have hf := hIFields
  generalize (Tryd.prog.fieldsOf 88).toList = fs at hf
  rcases fs with _ | ⟨f0, _ | ⟨f1, _ | ⟨f2, _ | ⟨f3, _ | ⟨f4, _ | ⟨f5, _ | ⟨f6, _ | ⟨g, t⟩⟩⟩⟩⟩⟩⟩⟩
  · simp at hf
  · simp at hf
  · simp at hf
  · simp at hf
  · simp at hf
  · simp at hf
  · simp at hf
  · simp only [List.map_cons, List.map_nil, List.cons.injEq, Prod.mk.injEq, and_true] at hf
    obtain ⟨⟨a0, b0, c0⟩, ⟨a1, b1, c1⟩, ⟨a2, b2, c2⟩, ⟨a3, b3, c3⟩, ⟨a4, b4, c4⟩, ⟨a5, b5, c5⟩, a6, b6, c6⟩ := hf
    have n0 : f0.name ≠ "_" := by simpa using a0
    have n1 : f1.name ≠ "_" := by simpa using a1
    have n2 : f2.name ≠ "_" := by simpa using a2
    have n3 : f3.name ≠ "_" := by simpa using a3
    have n4 : f4.name ≠ "_" := by simpa using a4
    have n5 : f5.name ≠ "_" := by simpa using a5
    have n6 : f6.name ≠ "_" := by simpa using a6
    simp only [Op.eqFields, ne_eq, n0, n1, n2, n3, n4, n5, n6, not_false_eq_true, if_true, b0, c0, b1, c1, b2, c2, b3, c3, b4, c4, b5, c5, b6, c6]
    have ui64 := Tryd.underlying3
    have uu8 := Tryd.underlying5
    simp [go_sem, ui64, uu8]
    all_goals (try (repeat' split) <;> simp_all)
  · simp at hf
set_option maxHeartbeats 1000000 in
theorem neq_hI (x0 x1 x2 x3 x4 x5 x6 y0 y1 y2 y3 y4 y5 y6 : Int) (w : World) : (binOp .neq 88 (.agg #[.int .u8 x0, .int .u8 x1, .int .u8 x2, .int .u8 x3, .int .i64 x4, .int .i64 x5, .int .i64 x6]) (.agg #[.int .u8 y0, .int .u8 y1, .int .u8 y2, .int .u8 y3, .int .i64 y4, .int .i64 y5, .int .i64 y6])).run Tryd.prog w = .ok (.bool (!((x0 == y0) && ((x1 == y1) && ((x2 == y2) && ((x3 == y3) && ((x4 == y4) && ((x5 == y5) && (x6 == y6))))))))) w := by
  rw [run_neq_struct, run_equalIn_struct w 9999 _ _ _ hIUnder hIHeld]
  have hf := hIFields
  generalize (Tryd.prog.fieldsOf 88).toList = fs at hf
  rcases fs with _ | ⟨f0, _ | ⟨f1, _ | ⟨f2, _ | ⟨f3, _ | ⟨f4, _ | ⟨f5, _ | ⟨f6, _ | ⟨g, t⟩⟩⟩⟩⟩⟩⟩⟩
  · simp at hf
  · simp at hf
  · simp at hf
  · simp at hf
  · simp at hf
  · simp at hf
  · simp at hf
  · simp only [List.map_cons, List.map_nil, List.cons.injEq, Prod.mk.injEq, and_true] at hf
    obtain ⟨⟨a0, b0, c0⟩, ⟨a1, b1, c1⟩, ⟨a2, b2, c2⟩, ⟨a3, b3, c3⟩, ⟨a4, b4, c4⟩, ⟨a5, b5, c5⟩, a6, b6, c6⟩ := hf
    have n0 : f0.name ≠ "_" := by simpa using a0
    have n1 : f1.name ≠ "_" := by simpa using a1
    have n2 : f2.name ≠ "_" := by simpa using a2
    have n3 : f3.name ≠ "_" := by simpa using a3
    have n4 : f4.name ≠ "_" := by simpa using a4
    have n5 : f5.name ≠ "_" := by simpa using a5
    have n6 : f6.name ≠ "_" := by simpa using a6
    simp only [Op.eqFields, ne_eq, n0, n1, n2, n3, n4, n5, n6, not_false_eq_true, if_true, b0, c0, b1, c1, b2, c2, b3, c3, b4, c4, b5, c5, b6, c6]
    have ui64 := Tryd.underlying3
    have uu8 := Tryd.underlying5
    simp [go_sem, ui64, uu8]
    all_goals (try (repeat' split) <;> simp_all)
  · simp at hf
end Go.Proofs.YtaegidmodenomaaDoor.ShQ
