/- Walks over fescuelaw03.chapter, alive and odd. -/
import Derived.Test.YtgimdoagccpcdaaTyW
import Derived.Test.YtgimdoagccpcdaaTyK
import Derived.Test.YtgimdoagccpcdaaTyRE
namespace Go.Proofs.Ytgimdoagccpcdaa.TyLA
open Go.RowKit Go.Lib Go.Shelf SetP IntO TyM TyP TyB TyC TyD TyE TyS TyF TyH TyK TyQ TyRE TyW

/-- a table in a block of its own -/
theorem tys_block {W : World} {b : Nat} {cur : Array Value} {ty : TypeId} {fr : Nat × Nat} {r : List Row} (h : W.heap[b]? = some (.cells cur ty fr)) (hc : cur.toList = rowVals r) (hp : ∀ x ∈ r, IntsAt W x.2 x.1.parts) (hl : r.length ≤ 100000) :
    TysAt W (.slice (some ⟨b, 0, none⟩) r.length r.length) (r.map Prod.fst) := by
  have hcell : ∀ j u, (rowVals r)[j]? = some u → W.cell? ⟨b, j, none⟩ = some u := fun j u hj => by
    unfold World.cell?
    rw [h]
    rw [← hc] at hj
    simpa using hj
  refine ⟨some ⟨b, 0, none⟩, r.length, by simp, by simp; omega, fun _ => ⟨b, 0, rfl, (Array.getElem?_eq_some_iff.1 h).1, fun i hi => ?_⟩, (fun e => by cases e), by simp⟩
  have hi' : i < r.length := by simpa using hi
  obtain ⟨e0, e1, e2, e3⟩ := rowVals_at r i hi'
  rw [List.getElem_map, Nat.zero_add]
  exact ⟨r[i].2, hcell _ _ e0, hcell _ _ e1, hcell _ _ e2, hcell _ _ e3, hp _ (List.getElem_mem hi')⟩
/-- numbers in a block of their own -/
theorem ints_block {W : World} {b : Nat} {cur : Array Value} {ty : TypeId} {fr : Nat × Nat} {l : List Int} (h : W.heap[b]? = some (.cells cur ty fr)) (hc : cur.toList = intVals l) (hl : l.length ≤ 100000) : IntsAt W (.slice (some ⟨b, 0, none⟩) l.length l.length) l := by
  refine ⟨some ⟨b, 0, none⟩, l.length, rfl, by omega, fun _ => ⟨b, 0, rfl, (Array.getElem?_eq_some_iff.1 h).1, fun i hi => ?_⟩, (fun e => by cases e), Nat.le_refl _⟩
  unfold World.cell?
  rw [h]
  have : (intVals l)[i]? = some (.int .i64 l[i]) := by simp [intVals, hi]
  rw [← hc] at this
  simpa using this

/-- a table, in memory -/
def TysR (t : List Ty) (w : World) (e : Ending) (w' : World) : Prop := ∃ v, e = .returned v ∧ TysAt w' v t ∧ Below w.heap.size w w'
/-- the chapter's table -/
def chapT : List Ty := [⟨1, 0, 0, []⟩, ⟨2, 2, 0, []⟩, ⟨4, 0, 0, [0, 1]⟩, ⟨5, 2, 2, []⟩]

set_option maxHeartbeats 400000 in
theorem chapter_calls (w : World) : Calls Try.prog 11 #[] w (TysR chapT w) := by
  go_enter Try.func11, Try.ntmps11
  have hb : Below w.heap.size w ((w.alloc (.cells #[.int .i64 0, .int .i64 1] 3)).alloc (.cells #[.int .u8 1, .int .i64 0, .int .i64 0, .slice none 0 0, .int .u8 2, .int .i64 2, .int .i64 0, .slice none 0 0, .int .u8 4, .int .i64 0, .int .i64 0, .slice (some ⟨w.heap.size, 0, none⟩) 2 2, .int .u8 5, .int .i64 2, .int .i64 2, .slice none 0 0] 24)) := ((Below.refl _ _).alloc (Nat.le_refl _) _).alloc (by simp) _
  have h1 := alloc_old (alloc_new w (.cells #[.int .i64 0, .int .i64 1] 3)) (.cells #[.int .u8 1, .int .i64 0, .int .i64 0, .slice none 0 0, .int .u8 2, .int .i64 2, .int .i64 0, .slice none 0 0, .int .u8 4, .int .i64 0, .int .i64 0, .slice (some ⟨w.heap.size, 0, none⟩) 2 2, .int .u8 5, .int .i64 2, .int .i64 2, .slice none 0 0] 24)
  have h2 := alloc_new (w.alloc (.cells #[.int .i64 0, .int .i64 1] 3)) (.cells #[.int .u8 1, .int .i64 0, .int .i64 0, .slice none 0 0, .int .u8 2, .int .i64 2, .int .i64 0, .slice none 0 0, .int .u8 4, .int .i64 0, .int .i64 0, .slice (some ⟨w.heap.size, 0, none⟩) 2 2, .int .u8 5, .int .i64 2, .int .i64 2, .slice none 0 0] 24)
  rw [World.size_alloc] at h2
  have H1 := hid h1
  have H2 := hid h2
  clear h1 h2
  go_wp2
  go_ret
  refine ⟨.slice (some ⟨w.heap.size + 1, 0, none⟩) 4 4, rfl, ?_, hb⟩
  refine tys_block (r := [(⟨1, 0, 0, []⟩, .slice none 0 0), (⟨2, 2, 0, []⟩, .slice none 0 0), (⟨4, 0, 0, [0, 1]⟩, .slice (some ⟨w.heap.size, 0, none⟩) 2 2), (⟨5, 2, 2, []⟩, .slice none 0 0)]) H2.out rfl ?_ (by simp)
  intro x hx
  simp only [List.mem_cons, List.not_mem_nil, or_false] at hx
  rcases hx with rfl | rfl | rfl | rfl
  · exact ints_none _
  · exact ints_none _
  · exact ints_block (l := [0, 1]) H1.out rfl (by simp)
  · exact ints_none _

theorem chapA : askT chapT 3 = 0 ∧ listT chapT 3 = [0, 1, 0, 1] ∧ partE chapT 3 1 = 0 ∧ offT chapT 3 1 = 2 ∧ chkT chapT = 0 := by decide +kernel

set_option maxHeartbeats 1000000 in
theorem alive_calls (w : World) : Calls Try.prog 14 #[] w (BoolR true w) := by
  obtain ⟨q1, q2, q3, q4, q5⟩ := chapA
  have HCH := hid chapter_calls
  have HCE := hid (fun v wx (h : TysAt wx v chapT) => cells_calls chapT v 3 wx h)
  have HOF := hid (fun v wx (h : TysAt wx v chapT) => offset_calls chapT v 3 1 wx h)
  have HCK := hid (fun v wx (h : TysAt wx v chapT) => check_calls chapT v wx h)
  rw [q1, q2] at HCE
  rw [q3, q4] at HOF
  rw [q5] at HCK
  clear q1 q2 q3 q4 q5
  go_enter Try.func14, Try.ntmps14
  go_wp2_with fail
  refine (HCH.out _).mono ?_
  rintro e w1 ⟨v1, rfl, h1, hb1⟩
  have HC1 := hid (HCE.out v1 w1 h1)
  clear h1
  go_wp2_with fail
  refine HC1.out.mono ?_
  rintro e w2 ⟨u, rfl, hu, hb2⟩
  have hbe2 := hb1.trans (hb2.mono hb1.size)
  have HU := hid hu
  obtain ⟨ua, uc, hue, _⟩ := ints_slice hu
  rw [hue] at HU ⊢
  clear hu hb1 hb2 HC1 hue
  go_wp2_with fail
  refine (HCH.out _).mono ?_
  rintro e w3 ⟨v2, rfl, h2, hb3⟩
  have hbe3 := hbe2.trans (hb3.mono hbe2.size)
  have HU3 := hid (HU.out.below hb3)
  have HO1 := hid (HOF.out v2 w3 h2)
  clear h2 hbe2 hb3
  go_wp2_with fail
  refine HO1.out.mono ?_
  rintro e w4 ⟨rfl, hb4⟩
  have hbe4 := hbe3.trans (hb4.mono hbe3.size)
  have HU4 := hid (HU3.out.below hb4)
  clear hb4 hbe3 HO1
  go_wp2_with fail
  refine (HCH.out _).mono ?_
  rintro e w5 ⟨v3, rfl, h3, hb5⟩
  have hbe5 := hbe4.trans (hb5.mono hbe4.size)
  have HU5 := hid (HU4.out.below hb5)
  have HK1 := hid (HCK.out v3 w5 h3)
  clear h3 hb5 hbe4
  go_wp2_with fail
  refine HK1.out.mono ?_
  rintro e w6 ⟨rfl, hb6⟩
  have hbe6 := hbe5.trans (hb6.mono hbe5.size)
  have hb7 : Below w6.heap.size w6 (w6.alloc (.cells #[.int .i64 0, .int .i64 1, .int .i64 0, .int .i64 1] 3)) := (Below.refl _ _).alloc (Nat.le_refl _) _
  have hbe7 := hbe6.trans (hb7.mono hbe6.size)
  have HS := hid (sameInts_calls (.slice ua [(0 : Int), 1, 0, 1].length uc) (.slice (some ⟨w6.heap.size, 0, none⟩) 4 4) [0, 1, 0, 1] [0, 1, 0, 1] (w6.alloc (.cells #[.int .i64 0, .int .i64 1, .int .i64 0, .int .i64 1] 3)) ((HU5.out.below hb6).below hb7) (ints_block (l := [0, 1, 0, 1]) (alloc_new w6 (.cells #[.int .i64 0, .int .i64 1, .int .i64 0, .int .i64 1] 3)) rfl (by simp)))
  clear hb6 hbe5 hb7 hbe6 HK1
  go_wp2_with fail
  refine HS.out.mono ?_
  rintro e w8 ⟨rfl, hb8⟩
  have hbe8 := hbe7.trans (hb8.mono hbe7.size)
  clear hb8 hbe7
  go_wp2
  go_ret
  exact ⟨rfl, hbe8⟩

theorem odd_calls (v : Value) (t : List Ty) (w : World) (ht : TysAt w v t) : Calls Try.prog 8 #[v] w (BoolR (decide (chkT t = 30)) w) := by
  have HC := hid (check_calls t v w ht)
  obtain ⟨ao, cap, rfl⟩ := ht.slice
  clear ht
  generalize t.length = n at *
  by_cases h : chkT t = 30
  · rw [decide_eq_true h]
    rw [h] at HC
    clear h
    go_enter Try.func8, Try.ntmps8
    go_wp2_with fail
    refine HC.out.mono ?_
    rintro e w1 ⟨rfl, hb1⟩
    go_wp2
    go_ret
    exact ⟨rfl, hb1⟩
  · rw [decide_eq_false h]
    have hd : (chkT t == 30) = false := by simpa using h
    generalize chkT t = er at *
    clear h
    go_enter Try.func8, Try.ntmps8
    go_wp2_with fail
    refine HC.out.mono ?_
    rintro e w1 ⟨rfl, hb1⟩
    go_wp2
    go_ret
    exact ⟨rfl, hb1⟩
end Go.Proofs.Ytgimdoagccpcdaa.TyLA
