/- Literals as tables and lists. -/
import Derived.Test.YtindpgejnaofkaaTyW
namespace Go.Proofs.Ytindpgejnaofkaa.TyLA
open Go.RowKit Go.Lib SetP IntO TyM TyP TyW

/-- a table in a block of its own -/
theorem tys_block {W : World} {b : Nat} {cur : Array Value} {ty : TypeId} {fr : Nat × Nat} {r : List Row} (h : W.heap[b]? = some (.cells cur ty fr)) (hc : cur.toList = rowVals r) (hp : ∀ x ∈ r, IntsAt W x.2 x.1.parts) (hl : r.length ≤ 100000) :
    TysAt W (.slice (some ⟨b, 0, none⟩) r.length r.length) (r.map Prod.fst) := by
  have hcell : ∀ j u, (rowVals r)[j]? = some u → W.cell? ⟨b, j, none⟩ = some u := fun j u hj => by
    unfold World.cell?
    rw [h]
    rw [← hc] at hj
    simpa using hj
  refine ⟨some ⟨b, 0, none⟩, r.length, by simp, by simp; omega, fun _ => ⟨b, 0, rfl, (Array.getElem?_eq_some_iff.1 h).1, fun i hi => ?_⟩, (fun e => by cases e), by simp⟩
  have hi' : i < r.length := by simpa using hi
  obtain ⟨e0, e1, e2, e3⟩ := rowVals_at r i hi'
  rw [List.getElem_map, Nat.zero_add]
  exact ⟨r[i].2, hcell _ _ e0, hcell _ _ e1, hcell _ _ e2, hcell _ _ e3, hp _ (List.getElem_mem hi')⟩
/-- numbers in a block of their own -/
theorem ints_block {W : World} {b : Nat} {cur : Array Value} {ty : TypeId} {fr : Nat × Nat} {l : List Int} (h : W.heap[b]? = some (.cells cur ty fr)) (hc : cur.toList = intVals l) (hl : l.length ≤ 100000) : IntsAt W (.slice (some ⟨b, 0, none⟩) l.length l.length) l := by
  refine ⟨some ⟨b, 0, none⟩, l.length, rfl, by omega, fun _ => ⟨b, 0, rfl, (Array.getElem?_eq_some_iff.1 h).1, fun i hi => ?_⟩, (fun e => by cases e), Nat.le_refl _⟩
  unfold World.cell?
  rw [h]
  have : (intVals l)[i]? = some (.int .i64 l[i]) := by simp [intVals, hi]
  rw [← hc] at this
  simpa using this

/-- a table, in memory -/
def TysR (t : List Ty) (w : World) (e : Ending) (w' : World) : Prop := ∃ v, e = .returned v ∧ TysAt w' v t ∧ Below w.heap.size w w'
end Go.Proofs.Ytindpgejnaofkaa.TyLA
