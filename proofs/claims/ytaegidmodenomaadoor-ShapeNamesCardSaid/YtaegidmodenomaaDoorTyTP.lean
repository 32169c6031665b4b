/- Tables that are copied. -/
import Derived.Test.YtaegidmodenomaaDoorTyW
import Derived.Test.YtaegidmodenomaaDoorTyB
import Derived.WalkSpells
import Derived.Laws.NewBlocks
namespace Go.Proofs.YtaegidmodenomaaDoor.TyT
open Go.RowKit Go.Lib SetP IntO TyM TyP TyB TyW

theorem info_ty : (Tryd.prog.info? 65).map (fun i => (i.zero, i.size, i.bytes)) = some (some (.agg #[.int .u8 0, .int .i64 0, .int .i64 0, .slice none 0 0]), 4, 48) := by kernel_rfl
theorem row_one {r : List Row} (h : ∀ x ∈ r, ∃ a n c, x.2 = .slice a n c) : ∀ u ∈ rowVals r, u.oneCell' = true := by
  intro u hu
  unfold rowVals at hu
  obtain ⟨x, hx, hu⟩ := List.mem_flatMap.1 hu
  obtain ⟨a, n, c, he⟩ := h x hx
  simp only [List.mem_cons, List.not_mem_nil, or_false] at hu
  rcases hu with rfl | rfl | rfl | rfl
  · rfl
  · rfl
  · rfl
  · rw [he]; rfl

/-- a copy of a table -/
theorem wpList_clone_tys {ops : Array Oper} {rest : List Oper} {o : Oper} {a : Act} {w : World} {Q : Exit → Act → World → Prop} (hgd : o.guard = none) (s x : Operand)
    (ho : o.op = .call { callee := .builtin .append, args := #[s, x], argTypes := #[26, 26] })
    (base : Nat) (v0 : Value) (hs : a.eval s = v0) (k : Nat) (xs : List Value) (hown : w.ownsRow base 65 4 v0 k xs) (hk : k ≤ 100000) (ao : Option Addr) (cap : Nat) (r : List Row) (hx : a.eval x = .slice ao r.length cap)
    (hr1 : ∀ x ∈ r, ∃ a n c, x.2 = .slice a n c) (hz : ao = none → cap = 0) (hcell : 0 < r.length → ∃ b off, ao = some ⟨b, off, none⟩ ∧ ∀ j u, (rowVals r)[j]? = some u → w.cell? ⟨b, off + j, none⟩ = some u) (hl : r.length ≤ 100000) (hbase : base ≤ w.heap.size)
    (h : ∀ v' w', w'.ownsRow base 65 4 v' (k + r.length) (xs ++ rowVals r) → w.grownBy w' v0.ownBlock → wpList Tryd.prog ops Q rest (a.put o.dst v') w') : wpList Tryd.prog ops Q (o :: rest) a w := by
  obtain ⟨i0, hi, hz0, hz1, hz2⟩ := info_parts info_ty
  cases hao : ao with
  | none =>
    have hl0 : r = [] := by
      by_cases hp : 0 < r.length
      · obtain ⟨b, off, hb, _⟩ := hcell hp
        rw [hao] at hb; cases hb
      · exact List.eq_nil_of_length_eq_zero (by omega)
    subst hl0
    obtain rfl := hz hao
    subst hao
    exact wpList_append_own_none hgd s x 26 ho base 65 i0 4 Tryd.underlying26 hi v0 k xs hs hown hx (h v0 w (by simpa [rowVals] using hown) ⟨rfl, rfl, rfl, Nat.le_refl _, fun _ _ _ => rfl⟩)
  | some ad =>
    subst hao
    have hnews : ∀ j u, (rowVals r)[j]? = some u → w.cell? (ad.add j) = some u := by
      by_cases hp : 0 < r.length
      · obtain ⟨b, off, hb, hc⟩ := hcell hp
        cases hb
        intro j u hj
        have hadd : (⟨b, off, none⟩ : Addr).add j = ⟨b, off + j, none⟩ := by unfold Addr.add; split <;> simp_all
        rw [hadd]
        exact hc j u hj
      · obtain rfl : r = [] := List.eq_nil_of_length_eq_zero (by omega)
        intro j u hj
        simp [rowVals] at hj
    exact wpList_append_own w hgd s x 26 ho base 65 i0 (.agg #[.int .u8 0, .int .i64 0, .int .i64 0, .slice none 0 0]) 4 48 Tryd.underlying26 hi hz0 hz1 hz2 rfl (by decide) v0 k xs hs hown ad r.length cap (rowVals r) hx (rowVals_length r) hnews (row_one hr1) (by unfold maxLen; omega) (by omega) hbase
      fun v' w' hown' hgrow _ => h v' w' hown' hgrow

/-- a twin: all of it is the call's own -/
def TwinR (t : List Ty) (w : World) (e : Ending) (w' : World) : Prop := ∃ u r, e = .returned u ∧ r.map Prod.fst = t ∧ OwnT w.heap.size u r w' ∧ Below w.heap.size w w'
end Go.Proofs.YtaegidmodenomaaDoor.TyT
namespace Go.Proofs.YtaegidmodenomaaDoor.TyRT
open Go.RowKit Go.Lib SetP IntO TyM TyP TyB TyW TyT

/-- rows are kept where a row of types grows -/
theorem own_kept {w w' : World} {B m : Nat} {u : Value} {r : List Row} {xs : List Value} (h : ∀ x ∈ r, w.ownsRow B 3 1 x.2 x.1.parts.length (intVals x.1.parts)) (ho : w.ownsRow B 65 4 u m xs) (hg : w.grownBy w' u.ownBlock) :
    ∀ x ∈ r, w'.ownsRow B 3 1 x.2 x.1.parts.length (intVals x.1.parts) := by
  intro x hx
  refine (h x hx).kept hg ?_
  rcases ho.2 with ⟨rfl, _⟩ | ⟨g, cap, cur, rfl, _⟩
  · cases hxv : x.2.ownBlock with
    | none => exact .inl rfl
    | some g => exact .inr (by simp [Value.ownBlock])
  · exact .inr (by simpa [Value.ownBlock] using own_ne (h x hx) ho (by decide))

theorem own_grown {B : Nat} {w0 w w' : World} {u : Value} {m : Nat} {xs : List Value} {ty : TypeId} {s : Nat} (hb : Below B w0 w) (ho : w.ownsRow B ty s u m xs) (hg : w.grownBy w' u.ownBlock) (hB : B ≤ w.heap.size) : Below B w0 w' :=
  hb.grown hg hB fun g hgg => by
    rcases ho.2 with ⟨rfl, _⟩ | ⟨g', _, _, rfl, hg', _⟩
    · cases hgg
    · have : g' = g := by simpa [Value.ownBlock] using hgg
      omega

end Go.Proofs.YtaegidmodenomaaDoor.TyRT
