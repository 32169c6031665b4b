/- Tables of types as they lie in memory. -/
import Derived.Test.YtaegidmodenomaaDoorTyM
import Derived.Test.YtaegidmodenomaaDoorIntO
namespace Go.Proofs.YtaegidmodenomaaDoor.TyP
open Go.RowKit Go.Lib SetP IntO TyM

/-- a type by value -/
abbrev tyV (x : Ty) (pv : Value) : Value := .agg #[.int .u8 x.kind, .int .i64 x.elem, .int .i64 x.many, pv]
/-- what a type's numbers may be -/
def TyOk (x : Ty) : Prop := (0 ≤ x.kind ∧ x.kind ≤ 255) ∧ (-9223372036854775808 ≤ x.elem ∧ x.elem ≤ 9223372036854775807) ∧ (-9223372036854775808 ≤ x.many ∧ x.many ≤ 9223372036854775807) ∧ ∀ n ∈ x.parts, -9223372036854775808 ≤ n ∧ n ≤ 9223372036854775807

/-- a type's four cells -/
def TyIn (w : World) (b o : Nat) (x : Ty) : Prop :=
  ∃ pv, w.cell? ⟨b, o, none⟩ = some (.int .u8 x.kind) ∧ w.cell? ⟨b, o + 1, none⟩ = some (.int .i64 x.elem) ∧ w.cell? ⟨b, o + 2, none⟩ = some (.int .i64 x.many) ∧ w.cell? ⟨b, o + 3, none⟩ = some pv ∧ IntsAt w pv x.parts
theorem TyIn.below {w w' : World} {b o : Nat} {x : Ty} (h : TyIn w b o x) (hlt : b < w.heap.size) (hb : Below w.heap.size w w') : TyIn w' b o x := by
  obtain ⟨pv, h0, h1, h2, h3, h4⟩ := h
  exact ⟨pv, (hb.cell (p := ⟨b, _, none⟩) hlt).trans h0, (hb.cell (p := ⟨b, _, none⟩) hlt).trans h1, (hb.cell (p := ⟨b, _, none⟩) hlt).trans h2, (hb.cell (p := ⟨b, _, none⟩) hlt).trans h3, h4.below hb⟩

/-- a table that lies in memory: its value, and its types -/
def TysAt (w : World) (v : Value) (t : List Ty) : Prop :=
  ∃ ao cap, v = .slice ao t.length cap ∧ t.length ≤ 9223372036854775807 ∧ (0 < t.length → ∃ b off, ao = some ⟨b, off, none⟩ ∧ b < w.heap.size ∧ ∀ i (h : i < t.length), TyIn w b (off + i * 4) t[i]) ∧ (ao = none → cap = 0) ∧ t.length ≤ cap
theorem TysAt.below {w w' : World} {v : Value} {t : List Ty} (h : TysAt w v t) (hb : Below w.heap.size w w') : TysAt w' v t := by
  obtain ⟨ao, cap, hv, hl, hm, hz⟩ := h
  refine ⟨ao, cap, hv, hl, fun h0 => ?_, hz⟩
  obtain ⟨b, off, ha, hlt, hc⟩ := hm h0
  exact ⟨b, off, ha, Nat.lt_of_lt_of_le hlt hb.size, fun i hi => (hc i hi).below hlt hb⟩
theorem TysAt.slice {w : World} {v : Value} {t : List Ty} (h : TysAt w v t) : ∃ ao cap, v = .slice ao t.length cap := by
  obtain ⟨ao, cap, hv, _⟩ := h
  exact ⟨ao, cap, hv⟩
/-- one of them -/
theorem TysAt.at {w : World} {ao : Option Addr} {n cap : Nat} {t : List Ty} (h : TysAt w (.slice ao n cap) t) (k : Nat) (hk : k < t.length) : ∃ b off, ao = some ⟨b, off, none⟩ ∧ b < w.heap.size ∧ TyIn w b (off + k * 4) t[k] := by
  obtain ⟨ao', cap', hv, hl, hm, hz⟩ := h
  cases hv
  obtain ⟨b, off, ha, hlt, hc⟩ := hm (by omega)
  exact ⟨b, off, ha, hlt, hc k hk⟩
theorem ints_at {w : World} {ao : Option Addr} {n cap : Nat} {l : List Int} (h : IntsAt w (.slice ao n cap) l) (k : Nat) (hk : k < l.length) : ∃ b off, ao = some ⟨b, off, none⟩ ∧ b < w.heap.size ∧ w.cell? ⟨b, off + k, none⟩ = some (.int .i64 l[k]) := by
  obtain ⟨ao', cap', hv, hl, hm, hz⟩ := h
  cases hv
  obtain ⟨b, off, ha, hlt, hc⟩ := hm (by omega)
  exact ⟨b, off, ha, hlt, hc k hk⟩
theorem ints_slice {w : World} {v : Value} {l : List Int} (h : IntsAt w v l) : ∃ ao cap, v = .slice ao l.length cap ∧ l.length ≤ 9223372036854775807 := by
  obtain ⟨ao, cap, hv, hl, _⟩ := h
  exact ⟨ao, cap, hv, hl⟩
theorem ints_none (w : World) : IntsAt w (.slice none 0 0) [] := ⟨none, 0, rfl, by simp, (fun h => by simp at h), (fun _ => rfl), by simp⟩
/-- one number, just made -/
theorem ints_one {w : World} {b : Nat} {n : Int} (h : w.cell? ⟨b, 0, none⟩ = some (.int .i64 n)) (hb : b < w.heap.size) : IntsAt w (.slice (some ⟨b, 0, none⟩) 1 1) [n] :=
  ⟨some ⟨b, 0, none⟩, 1, rfl, by simp, fun _ => ⟨b, 0, rfl, hb, fun i hi => by
    obtain rfl : i = 0 := by simpa using hi
    simpa using h⟩, (fun h => by cases h), by simp⟩
theorem ints_cap {w : World} {ao : Option Addr} {n cap : Nat} {l : List Int} (h : IntsAt w (.slice ao n cap) l) : l.length ≤ cap := by
  obtain ⟨ao', cap', hv, _, _, _, hc⟩ := h
  cases hv
  exact hc
theorem bcell {W w1 : World} (hb : Below W.heap.size W w1) : (∀ b o, b < W.heap.size → w1.cell? ⟨b, o, none⟩ = W.cell? ⟨b, o, none⟩) :=
  fun b o h => hb.cell (p := ⟨b, o, none⟩) h
end Go.Proofs.YtaegidmodenomaaDoor.TyP
