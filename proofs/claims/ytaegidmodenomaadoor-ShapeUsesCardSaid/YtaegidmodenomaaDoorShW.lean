/- Walks over shape.Ends and the reference's Ends. -/
import Derived.Test.YtaegidmodenomaaDoorShB
namespace Go.Proofs.YtaegidmodenomaaDoor.ShW
open Go.RowKit Go.Lib SetP IntO TyM TyP TyB ShM ShP ShA ShB

theorem own_one (w : World) (n : Int) : (w.alloc (.cells #[.int .i64 n] 3)).ownsRow w.heap.size 3 1 (.slice (some ⟨w.heap.size, 0, none⟩) 1 1) 1 (intVals [n]) :=
  ownsRow_lit w [.int .i64 n] 3 1 rfl (by decide)
theorem own_one' (w : World) (m : Nat) (n : Int) (h : w.heap.size = m) : (w.alloc (.cells #[.int .i64 n] 3)).ownsRow m 3 1 (.slice (some ⟨m, 0, none⟩) 1 1) 1 (intVals [n]) := by
  subst h; exact own_one w n
set_option maxRecDepth 100000 in
theorem endsR_calls (x : Ex) (w : World) (h0 : 0 ≤ x.kind) (h2 : x.kind ≤ 255) : Calls Tryd.prog 31 #[exV x] w (OwnI (endsOf x) w) := by
  obtain ⟨k, a, t, e⟩ := x
  simp only at *
  by_cases h : k = 2 ∨ k = 3
  · rw [show endsOf ⟨k, a, t, e⟩ = [a] from if_pos h]
    rcases h with rfl | rfl
    all_goals
      go_enter Tryd.func31, Tryd.ntmps31
      go_wp2
      go_ret
      exact ⟨.slice (some ⟨w.heap.size + 1, 0, none⟩) 1 1, 1, rfl, owns_base (own_one' _ _ _ (by simp)) (Nat.le_succ _), (alloc_below _ _).alloc (by simp) _⟩
  · rw [show endsOf ⟨k, a, t, e⟩ = [] from if_neg h]
    have e1 : (k == 2) = false := by simp; omega
    have e2 : (k == 3) = false := by simp; omega
    go_enter Tryd.func31, Tryd.ntmps31
    go_wp2
    go_ret
    exact ⟨_, 0, rfl, World.ownsRow_nil _ _ _ _, alloc_below _ _⟩

set_option maxRecDepth 100000 in
theorem ends_core (x : Ex) (y : HasE) (w : World) (HC : Hid (∀ wx, Below w.heap.size w wx → Calls Tryd.prog 62 #[.int .u8 x.kind] wx (ValR (hasEV y) wx))) :
    Calls Tryd.prog 30 #[exV x] w (OwnI (if y.a = 3 then [x.a] else []) w) := by
  obtain ⟨k, a, t, e⟩ := x
  obtain ⟨ya, yt, ye⟩ := y
  have hb0 := alloc_below w (.cells #[.int .u8 k, .int .i64 a, .int .i64 t, .int .i64 e] 35)
  simp only [hasEV] at *
  have HC1 := hid (HC.out _ hb0)
  have HB0 := hid hb0
  clear HC hb0
  by_cases h : ya = 3
  · rw [if_pos h]
    subst h
    have HF := fun w => field_hasE w 3 yt ye
    go_enter Tryd.func30, Tryd.ntmps30
    go_wp2_with fail
    refine HC1.out.mono ?_
    rintro e w1 ⟨rfl, hb1⟩
    obtain ⟨f1, _, s1, k1⟩ := copyF (alloc_new _ _) hb1 (by simp only [World.size_alloc]; omega)
    have c1 := f1 1 (by simp)
    simp only [List.getElem_toArray, List.getElem_cons_succ, List.getElem_cons_zero] at c1
    have hbe := HB0.out.trans (hb1.mono HB0.out.size)
    clear HC1 hb1 f1 k1
    go_wp2
    go_ret
    exact ⟨_, 1, rfl, owns_base (own_one _ _) hbe.size, hbe.alloc hbe.size _⟩
  · rw [if_neg h]
    have HF := fun w => field_hasE w ya yt ye
    have e1 : (ya == 3) = false := by simpa using h
    go_enter Tryd.func30, Tryd.ntmps30
    go_wp2_with fail
    refine HC1.out.mono ?_
    rintro e w1 ⟨rfl, hb1⟩
    have hbe := HB0.out.trans (hb1.mono HB0.out.size)
    clear HC1 hb1
    go_wp2
    go_ret
    exact ⟨_, 0, rfl, World.ownsRow_nil _ _ _ _, hbe⟩
theorem ends_calls (x : Ex) (w : World) (h0 : 0 ≤ x.kind) (h2 : x.kind ≤ 255) (ht : Tab w) : Calls Tryd.prog 30 #[exV x] w (OwnI (endsOf x) w) := by
  have : endsOf x = if (hasEOf x.kind).a = 3 then [x.a] else [] := by
    unfold endsOf
    by_cases h : x.kind = 2 ∨ x.kind = 3
    · rw [if_pos h, if_pos ((hase_tells h0).2 h)]
    · rw [if_neg h, if_neg (fun e => h ((hase_tells h0).1 e))]
  rw [this]
  exact ends_core x (hasEOf x.kind) w (fun wx hb => rowE_calls x.kind h0 h2 wx (ht.on hb))
end Go.Proofs.YtaegidmodenomaaDoor.ShW
