/- Plain facts: how sets that lie in memory are appended; how many words. -/
import Derived.Test.YtecfjjpdlohmnaaDoorSetT
namespace Go.Proofs.YtecfjjpdlohmnaaDoor.SetW2
open Go.RowKit Go.Lib SetP SetO SetNum SetIn SetWith SetT

theorem owns_base {w : World} {B B2 : Nat} {e : TypeId} {size : Nat} {v : Value} {n : Nat} {xs : List Value} (h : w.ownsRow B2 e size v n xs) (hB : B ≤ B2) : w.ownsRow B e size v n xs := by
  obtain ⟨h1, h2⟩ := h
  refine ⟨h1, ?_⟩
  rcases h2 with h2 | ⟨g, cap, cur, a, b, c⟩
  · exact .inl h2
  · exact .inr ⟨g, cap, cur, a, Nat.le_trans hB b, c⟩

/-- the cells of a set that lies in memory, as they are appended -/
theorem set_news {w : World} {s : List Wd} {b off : Nat} (hc : ∀ i (h : i < s.length), w.cell? ⟨b, off + i * 2, none⟩ = some (.int .i64 s[i].1) ∧ w.cell? ⟨b, off + i * 2 + 1, none⟩ = some (.int .u64 s[i].2)) :
    ∀ j u, (wdVals s)[j]? = some u → w.cell? ((⟨b, off, none⟩ : Addr).add j) = some u := by
  intro j u hj
  have hlt : j < s.length * 2 := by
    have := (List.getElem?_eq_some_iff.1 hj).1
    rwa [wdVals_length] at this
  have hadd : (⟨b, off, none⟩ : Addr).add j = ⟨b, off + j, none⟩ := by unfold Addr.add; split <;> simp_all
  rw [hadd]
  obtain ⟨i, hi⟩ : ∃ i, j = i * 2 ∨ j = i * 2 + 1 := ⟨j / 2, by omega⟩
  have hil : i < s.length := by omega
  obtain ⟨e1, e2⟩ := wdVals_at s i hil
  rcases hi with rfl | rfl
  · rw [e1] at hj; rw [← hj]; exact (hc i hil).1
  · rw [e2] at hj; rw [← hj]; exact (hc i hil).2
theorem wd_one (s : List Wd) : ∀ u ∈ wdVals s, u.oneCell' = true := by
  intro u hu
  unfold wdVals at hu
  obtain ⟨x, _, hx⟩ := List.mem_flatMap.1 hu
  rcases List.mem_cons.1 hx with rfl | hx
  · rfl
  · rw [List.mem_singleton.1 hx]; rfl

theorem wok {s : List Wd} (hin : ∀ x ∈ s, WdIn x) : ∀ x ∈ s, WdOk x := fun x hx => by obtain ⟨a1, a2, a3, a4⟩ := hin x hx; exact ⟨by omega, by omega, a3, a4⟩
theorem may_length {s : List Wd} (h : MayW s) : s.length ≤ 16384 := by
  have key : ∀ (s : List Wd) (lo : Int), (∀ x ∈ s, lo ≤ x.1 ∧ x.1 < 16384) → s.Pairwise (fun x y => x.1 < y.1) → lo ≤ 16384 → (s.length : Int) ≤ 16384 - lo := by
    intro s
    induction s with
    | nil => intro lo _ _ hl; simp; omega
    | cons x t ih =>
      intro lo h1 h2 hl
      have hx := h1 x (by simp)
      have := ih (x.1 + 1) (fun y hy => by have := (List.pairwise_cons.1 h2).1 y hy; have := (h1 y (by simp [hy])).2; omega) (List.pairwise_cons.1 h2).2 (by omega)
      simp; omega
  have := key s 0 (fun x hx => ⟨(h.1 x hx).1, (h.1 x hx).2.1⟩) h.2 (by omega)
  omega
end Go.Proofs.YtecfjjpdlohmnaaDoor.SetW2
