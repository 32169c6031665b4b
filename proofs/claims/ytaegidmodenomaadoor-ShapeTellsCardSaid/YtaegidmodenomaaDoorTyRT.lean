/- Walk over fescueref03.Twin. -/
import Derived.Test.YtaegidmodenomaaDoorTyTP
import Derived.Test.YtaegidmodenomaaDoorTyD
namespace Go.Proofs.YtaegidmodenomaaDoor.TyRT
open Go.RowKit Go.Lib SetP IntO TyM TyP TyB TyW TyT TyD

/-- the first k types, copied -/
def MidR (w : World) (t : List Ty) (k : Nat) (u : Value) (wr : World) : Prop := ∃ r : List Row, r.map Prod.fst = t.take k ∧ OwnT w.heap.size u r wr ∧ Below w.heap.size w wr

theorem row_lit (W : World) (x : Ty) (pv : Value) (n : Nat) (hn : W.heap.size = n) {j : Nat} {u : Value} (hj : (rowVals [(x, pv)])[j]? = some u) :
    (W.alloc (.cells #[.int .u8 x.kind, .int .i64 x.elem, .int .i64 x.many, pv] 65)).cell? ⟨n, 0 + j, none⟩ = some u := by
  subst hn
  unfold World.cell?
  rw [alloc_new, Nat.zero_add]
  simpa [rowVals] using hj
theorem row_ne {w : World} {B b s n : Nat} {e f : TypeId} {v : Value} {xs : List Value} {cs : Array Value} {fr : Nat × Nat} (h : w.ownsRow B e s v n xs) (hb : w.heap[b]? = some (.cells cs f fr)) (hef : e ≠ f) : v.ownBlock ≠ some b := by
  intro hg
  rcases h.2 with ⟨rfl, _⟩ | ⟨g, _, _, rfl, _, h1, _⟩
  · cases hg
  · obtain rfl : g = b := by simpa [Value.ownBlock] using hg
    rw [h1] at hb
    simp at hb
    exact hef hb.2.1
set_option maxHeartbeats 1000000 in
theorem twinR_calls (v : Value) (t : List Ty) (w : World) (ht : TysAt w v t) (hlen : t.length ≤ 20) (hp : ∀ x ∈ t, x.parts.length ≤ 20) : Calls Tryd.prog 40 #[v] w (TwinR t w) := by
  have HT := hid ht
  have HP := hid hp
  obtain ⟨ao, cap, rfl⟩ := ht.slice
  clear ht hp
  go_enter Tryd.func40, Tryd.ntmps40
  go_wp2
  go_loopg [3, 4] t.length (fun gk o i wr => ∃ k : Nat, k + gk = t.length ∧ i = .int .i64 k ∧ MidR w t k o wr)
  case atStart => exact ⟨0, by omega, rfl, [], rfl, ⟨World.ownsRow_nil _ _ _ _, by simp⟩, Below.refl _ _⟩
  case round =>
    obtain ⟨k, hk, rfl, hmid⟩ := hrel
    have HK := hid hk
    have HM := hid hmid
    obtain ⟨r, hr, hown, hbe⟩ := hmid
    by_cases hlt : k < t.length
    · have hsz := hbe.size
      obtain ⟨tb, off, rfl, htb, pv, c0, c1, c2, c3, hpv⟩ := (HT.out.below hbe).at k hlt
      have hpl := HP.out _ (List.getElem_mem hlt)
      have HTK : Hid (t.take (k + 1) = t.take k ++ [t[k]]) := List.take_succ_eq_append_getElem hlt
      have HR := hid hr
      have hrl : r.length ≤ 20 := by have := congrArg List.length hr; simp at this; omega
      clear hr hk HM
      generalize t[k] = x at *
      have hb1 : Below wr.heap.size wr ((wr.alloc (.cells #[.int .u8 x.kind, .int .i64 x.elem, .int .i64 x.many, pv] 65)).alloc (.cells #[] 3)) := ((Below.refl _ _).alloc (Nat.le_refl _) _).alloc (by simp) _
      have ho0 := World.ownsRow_made (base := wr.heap.size + 1) (e := 3) (size := 1) (wr.alloc (.cells #[.int .u8 x.kind, .int .i64 x.elem, .int .i64 x.many, pv] 65)) #[] 0 (by simp) (by decide) (by simp)
      rw [World.size_alloc] at ho0
      have HOWN0 := hid ho0
      clear ho0
      have HPV := hid (hpv.below hb1)
      have HCP := hid (alloc_old (alloc_new wr (.cells #[.int .u8 x.kind, .int .i64 x.elem, .int .i64 x.many, pv] 65)) (.cells #[] 3))
      have HOWN := hid hown
      have HB1 := hid hb1
      have HBE := hid (hbe.trans (hb1.mono hsz))
      obtain ⟨pa, pc, rfl, _⟩ := ints_slice hpv
      have hbs : wr.heap.size + 1 ≤ ((wr.alloc (.cells #[.int .u8 x.kind, .int .i64 x.elem, .int .i64 x.many, .slice pa x.parts.length pc] 65)).alloc (.cells #[] 3)).heap.size := by simp
      clear hpv hown hbe hb1
      go_wp2_with (at_builtin; refine wpList_clone_ints rfl (.tmp 16) (.tmp 18) rfl (wr.heap.size + 1) (.slice (some ⟨wr.heap.size + 1, 0, none⟩) 0 0) rfl HOWN0.out (.slice pa x.parts.length pc) x.parts rfl HPV.out (by omega) hbs ?_)
      intro v' m w1 hv' hb'
      have hcp := (hb'.block _ (by omega)).trans HCP.out
      obtain ⟨cf, fz, hcs, _⟩ := copy_facts hcp (Below.refl _ _)
      have d0 := cf 0 (by simp)
      have d1 := cf 1 (by simp)
      have d2 := cf 2 (by simp)
      have d3 := cf 3 (by simp)
      have z3 := fz 3
      simp only [List.getElem_toArray, List.getElem_cons_succ, List.getElem_cons_zero] at d0 d1 d2 d3
      have hsz1 : wr.heap.size + 1 ≤ w1.heap.size := by have := hb'.size; omega
      have hpf : ∃ a n c, v' = .slice a n c := by
        rcases hv'.2 with ⟨rfl, _⟩ | ⟨_, _, _, rfl, _⟩
        · exact ⟨_, _, _, rfl⟩
        · exact ⟨_, _, _, rfl⟩
      obtain ⟨qa, qn, qc, rfl⟩ := hpf
      -- behind the store, and the new row of one type
      have hbe1 := (HBE.out.trans (hb'.mono (by omega : w.heap.size ≤ wr.heap.size + 1))).setCell (p := ⟨wr.heap.size, 3, none⟩) hsz (.slice qa qn qc)
      have hks : w1.grownBy (w1.setCell ⟨wr.heap.size, 3, none⟩ (.slice qa qn qc)) (some wr.heap.size) := ⟨rfl, rfl, rfl, (by simp [World.setCell]), fun j hj hne => Below.heap_setCell _ _ _ j (fun e => hne (by rw [e]))⟩
      have hv2 := hv'.kept hks (.inr (row_ne hv' hcp (by decide)))
      have hbw : Below wr.heap.size wr (w1.setCell ⟨wr.heap.size, 3, none⟩ (.slice qa qn qc)) := (HB1.out.trans (hb'.mono (by omega))).setCell (p := ⟨wr.heap.size, 3, none⟩) (Nat.le_refl _) _
      have hold := HOWN.out.below hbw
      have hsz2 : (w1.setCell ⟨wr.heap.size, 3, none⟩ (.slice qa qn qc)).heap.size = w1.heap.size := size_set _ _ _
      have ho3 := hold.1.alloc (.cells #[.int .u8 x.kind, .int .i64 x.elem, .int .i64 x.many, .slice qa qn qc] 65)
      have HO3 := hid ho3
      have HX3 : Hid (∀ y ∈ r ++ [(x, Value.slice qa qn qc)], ((w1.setCell ⟨wr.heap.size, 3, none⟩ (.slice qa qn qc)).alloc (.cells #[.int .u8 x.kind, .int .i64 x.elem, .int .i64 x.many, .slice qa qn qc] 65)).ownsRow w.heap.size 3 1 y.2 y.1.parts.length (intVals y.1.parts)) := by
        intro y hy
        rcases List.mem_append.1 hy with hy | hy
        · exact (hold.2 y hy).alloc _
        · rw [List.mem_singleton.1 hy]
          have hm : m = x.parts.length := by have := hv'.1; rw [intVals_length] at this; omega
          subst hm
          exact owns_base (hv2.alloc _) (by omega)
      have HC3 : Hid (0 < [(x, Value.slice qa qn qc)].length → ∃ b off, some (⟨w1.heap.size, 0, none⟩ : Addr) = some ⟨b, off, none⟩ ∧ ∀ j u, (rowVals [(x, Value.slice qa qn qc)])[j]? = some u → ((w1.setCell ⟨wr.heap.size, 3, none⟩ (.slice qa qn qc)).alloc (.cells #[.int .u8 x.kind, .int .i64 x.elem, .int .i64 x.many, .slice qa qn qc] 65)).cell? ⟨b, off + j, none⟩ = some u) :=
        fun _ => ⟨w1.heap.size, 0, rfl, fun j u hj => row_lit _ _ _ _ hsz2 hj⟩
      have HS3 : Hid (∀ y ∈ [(x, Value.slice qa qn qc)], ∃ a n c, y.2 = .slice a n c) := fun y hy => by rw [List.mem_singleton.1 hy]; exact ⟨_, _, _, rfl⟩
      have HBE3 := hid (hbe1.alloc (by rw [hsz2]; omega) (.cells #[.int .u8 x.kind, .int .i64 x.elem, .int .i64 x.many, .slice qa qn qc] 65))
      have hsz3 : w.heap.size ≤ ((w1.setCell ⟨wr.heap.size, 3, none⟩ (.slice qa qn qc)).alloc (.cells #[.int .u8 x.kind, .int .i64 x.elem, .int .i64 x.many, .slice qa qn qc] 65)).heap.size := by rw [World.size_alloc, hsz2]; omega
      clear hold ho3 hbw hv2 hks hbe1 hv' hb' hcp cf fz hcs hsz2 HOWN HBE HB1 HCP HPV HOWN0
      go_wp2_with (at_builtin; refine wpList_clone_tys rfl (.tmp 21) (.tmp 23) rfl w.heap.size _ rfl r.length (rowVals r) HO3.out (by omega) (some ⟨w1.heap.size, 0, none⟩) 1 [(x, .slice qa qn qc)] rfl HS3.out (fun h => by cases h) HC3.out (by simp) hsz3 ?_)
      intro v4 w4 hown4 hgr4
      have hfin : MidR w t (k + 1) v4 w4 := by
        refine ⟨r ++ [(x, .slice qa qn qc)], ?_, ⟨?_, own_kept HX3.out HO3.out hgr4⟩, own_grown HBE3.out HO3.out hgr4 hsz3⟩
        · rw [List.map_append, HR.out, HTK.out]; rfl
        · rw [List.length_append, rowVals_append]; exact hown4
      have HFIN := hid hfin
      clear hfin hown4 hgr4
      go_wp2
      go_roundg (gk - 1)
      case measure => have := HK.out; omega
      case rel => exact ⟨k + 1, by have := HK.out; omega, by go_num, HFIN.out⟩
    · obtain rfl : k = t.length := by have := HK.out; omega
      clear hk hr hown hbe
      have HTL : Hid (t.take t.length = t) := List.take_of_length_le (Nat.le_refl _)
      generalize t.length = n at *
      go_wp2
      go_ret
      obtain ⟨r3, h1, h2, h3⟩ := HM.out
      exact ⟨_, r3, rfl, by rw [h1]; exact HTL.out, h2, h3⟩
end Go.Proofs.YtaegidmodenomaaDoor.TyRT
