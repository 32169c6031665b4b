/- Walks over the writer's typ and end. -/
import Derived.Test.YtbebficgcemkoaaGreatDoorZWkL
import Derived.Test.YtbebficgcemkoaaGreatDoorZLxKToWrP
import Derived.Deep.Cut
import Derived.Deep.DeepCutAuto
namespace Go.Proofs.YtbebficgcemkoaaGreatDoor.WkT
open Go.RowKit Go.Lib IntO SetP TyM ShM ShP LxM LxP LxJ RwO RgZ NumP WrM WrI WrP WkM WkA WkL Aft


theorem cell_at {W : World} {b : Nat} {cs : Array Value} {ty : TypeId} (h : W.heap[b]? = some (.cells cs ty (0, 0))) (i : Nat) (v : Value) (hv : cs[i]? = some v) : W.cell? ⟨b, i, none⟩ = some v := by
 unfold World.cell?; rw [h]; exact hv
theorem alloc2 (w : World) (c1 c2 : Array Value) (t1 t2 : TypeId) : ((w.alloc (.cells c1 t1)).alloc (.cells c2 t2)).drew.heap[w.heap.size]? = some (.cells c1 t1 (0, 0)) ∧ ((w.alloc (.cells c1 t1)).alloc (.cells c2 t2)).drew.heap[w.heap.size + 1]? = some (.cells c2 t2 (0, 0)) ∧ Below w.heap.size w ((w.alloc (.cells c1 t1)).alloc (.cells c2 t2)).drew := by
 have h1 := heap_alloc_new w (.cells c1 t1)
 have h2 := heap_alloc_new (w.alloc (.cells c1 t1)) (.cells c2 t2)
 rw [World.size_alloc] at h2
 have hb : Below w.heap.size w ((w.alloc (.cells c1 t1)).alloc (.cells c2 t2)) := (LxP.alloc_below _ _).alloc (by rw [World.size_alloc]; omega) _
 exact ⟨((LxP.alloc_below (w.alloc (.cells c1 t1)) (.cells c2 t2)).block _ (by rw [World.size_alloc]; omega)).trans h1, h2, hb.drew⟩
/-- a line of parts written out -/
theorem line_lit {w1 : World} {l : List Pt} {cs : List Value} {n : Nat} {ty : TypeId} (hlen : l.length = n) (hn : n ≤ 100) (hv : vals l = cs) (ha : ∀ p ∈ l, p.At w1) (hw : (wordsAll l).length ≤ 10000) (ht : NumL.Tab w1) :
  Calls Tryz.prog 43 #[.slice (some ⟨w1.heap.size, 0, none⟩) n n] (w1.alloc (.cells cs.toArray ty)) (LineR (wordsAll l) w1) :=
 (line_calls _ l _ (parts_lit hlen hn hv ha ty) hw (ht.on (LxP.alloc_below _ _))).mono fun e w' ⟨u, h1, h2, h3⟩ =>
  ⟨u, h1, LxP.owns_base h2 (by rw [World.size_alloc]; omega), (LxP.alloc_below _ _).trans (h3.mono (by rw [World.size_alloc]; omega))⟩
theorem LineR.up {ws : List ByteArray} {w w1 w' : World} {e : Ending} (h : LineR ws w1 e w') (hb : Below w.heap.size w w1) : LineR ws w e w' := by
 obtain ⟨u, h1, h2, h3⟩ := h
 exact ⟨u, h1, LxP.owns_base h2 hb.size, hb.trans (h3.mono hb.size)⟩
theorem all1 {p : Pt → Prop} {a : Pt} (h : p a) : ∀ x ∈ [a], p x := fun x hx => by rw [List.mem_singleton.1 hx]; exact h
theorem allc {p : Pt → Prop} {a : Pt} {l : List Pt} (h : p a) (k : ∀ x ∈ l, p x) : ∀ x ∈ a :: l, p x := fun x hx => by
 rcases List.mem_cons.1 hx with rfl | hx
 ·exact h
 ·exact k x hx

set_option maxRecDepth 100000 in
set_option maxHeartbeats 8000000 in
theorem end_calls (x : Ex) (w : World) (h1 : I64 x.a) (h2 : I64 x.to) (h3 : I64 x.els) (ht : NumL.Tab w) :
  Calls Tryz.prog 45 #[exV x] w (LineR (endW x) w) := by
 have HT := hid ht
 have H1 := hid h1
 have H2 := hid h2
 have H3 := hid h3
 have HE : Hid (endW x = if x.kind = 1 then [mk [106, 117, 109, 112], mkw 98 x.to] else if x.kind = 2 then [mk [98, 114, 97, 110, 99, 104], mkw 114 x.a, mkw 98 x.to, mkw 98 x.els] else [mk [114, 101, 116, 117, 114, 110], mkw 114 x.a]) := rfl
 clear h1 h2 h3 ht
 obtain ⟨w1, hw1⟩ : ∃ X, X = w.alloc (.cells #[.int .u8 x.kind, .int .i64 x.a, .int .i64 x.to, .int .i64 x.els] 52) := ⟨_, rfl⟩
 have k0 : w1.heap[w.heap.size]? = some (.cells #[.int .u8 x.kind, .int .i64 x.a, .int .i64 x.to, .int .i64 x.els] 52 (0, 0)) := by rw [hw1]; exact heap_alloc_new _ _
 have hb1 : Below w.heap.size w w1 := by rw [hw1]; exact LxP.alloc_below _ _
 have HW1 := hid hw1
 have HB1 := hid hb1
 have HK0 := hid k0
 have hlt1 : w.heap.size < w1.heap.size := (Array.getElem?_eq_some_iff.1 k0).1
 have l1 := cell_at k0 1 _ rfl
 have l2 := cell_at k0 2 _ rfl
 clear hw1 hb1 k0
 go_enter Tryz.func45, Tryz.ntmps45
 go_wp2_with fail
 rw [← HW1.out]
 go_cut [3, 4] (fun p q wc => ∃ a b : Nat, p = .pointer (some ⟨a, 0, none⟩) ∧ q = .pointer (some ⟨b, 0, none⟩) ∧ wc.heap[a]? = some (.cells #[.string (mk [114]), .int .i64 x.a] 82 (0, 0)) ∧ wc.heap[b]? = some (.cells #[.string (mk [98]), .int .i64 x.to] 82 (0, 0)) ∧ Below w1.heap.size w1 wc)
 case first =>
  go_region
  all_goals
   go_wp2_with fail
   go_meet
   case rel =>
    first
    | (obtain ⟨h1, h2, h3⟩ := alloc2 w1 #[.string (mk [98]), .int .i64 x.to] #[.string (mk [114]), .int .i64 x.a] 82 82; exact ⟨_, _, rfl, rfl, h2, h1, h3⟩)
    | (obtain ⟨h1, h2, h3⟩ := alloc2 w1 #[.string (mk [114]), .int .i64 x.a] #[.string (mk [98]), .int .i64 x.to] 82 82; exact ⟨_, _, rfl, rfl, h1, h2, h3⟩)
 case rest =>
  obtain ⟨a, b, rfl, rfl, ka, kb, hbc⟩ := hcut
  obtain ⟨wd, hwd⟩ : ∃ wd : World, wd = wc := ⟨_, rfl⟩
  subst hwd
  have k0 := (hbc.block _ hlt1).trans HK0.out
  have m0 := cell_at k0 0 _ rfl
  have m3 := cell_at k0 3 _ rfl
  have a0 := cell_at ka 0 _ rfl
  have a1 := cell_at ka 1 _ rfl
  have b0 := cell_at kb 0 _ rfl
  have b1 := cell_at kb 1 _ rfl
  have hbw := HB1.out.trans (hbc.mono HB1.out.size)
  have HBW := hid hbw
  have HTW := hid (HT.out.on hbw)
  clear l1 l2 k0 ka kb hbc hbw HB1 HK0 HT HW1
  by_cases q1 : x.kind = 1
  ·have HE1 := hid (HE.out.trans (if_pos q1))
   clear HE
   have HC := hid (line_lit (w1 := wd) (l := [.word (mk [106, 117, 109, 112]), .mark 98 x.to]) (n := 2) (ty := 144) rfl (by decide) rfl (allc trivial (all1 H2.out)) (Nat.le_of_ble_eq_true rfl) HTW.out)
   go_wp2_with fail
   refine HC.out.mono ?_
   rintro e w5 ⟨u, rfl, ho, hb⟩
   clear HC m0 m3 a0 a1 b0 b1
   obtain ⟨ua, uc, rfl⟩ := own_form ho
   have HR := hid (LineR.up ⟨_, rfl, ho, hb⟩ HBW.out)
   go_wp2
   go_ret
   rw [HE1.out]
   exact HR.out
  have HE0 := hid (HE.out.trans (if_neg q1))
  clear HE
  by_cases q2 : x.kind = 2
  ·have HE1 := hid (HE0.out.trans (if_pos q2))
   clear HE0
   have HC := hid (line_lit (w1 := wd) (l := [.word (mk [98, 114, 97, 110, 99, 104]), .mark 114 x.a, .mark 98 x.to, .mark 98 x.els]) (n := 4) (ty := 144) rfl (by decide) rfl (allc trivial (allc H1.out (allc H2.out (all1 H3.out)))) (Nat.le_of_ble_eq_true rfl) HTW.out)
   go_wp2_with fail
   refine HC.out.mono ?_
   rintro e w5 ⟨u, rfl, ho, hb⟩
   clear HC m0 m3 a0 a1 b0 b1
   obtain ⟨ua, uc, rfl⟩ := own_form ho
   have HR := hid (LineR.up ⟨_, rfl, ho, hb⟩ HBW.out)
   go_wp2
   go_ret
   rw [HE1.out]
   exact HR.out
  ·have HE1 := hid (HE0.out.trans (if_neg q2))
   clear HE0
   have HC := hid (line_lit (w1 := wd) (l := [.word (mk [114, 101, 116, 117, 114, 110]), .mark 114 x.a]) (n := 2) (ty := 144) rfl (by decide) rfl (allc trivial (all1 H1.out)) (Nat.le_of_ble_eq_true rfl) HTW.out)
   go_wp2_with fail
   refine HC.out.mono ?_
   rintro e w5 ⟨u, rfl, ho, hb⟩
   clear HC m0 m3 a0 a1 b0 b1
   obtain ⟨ua, uc, rfl⟩ := own_form ho
   have HR := hid (LineR.up ⟨_, rfl, ho, hb⟩ HBW.out)
   go_wp2
   go_ret
   rw [HE1.out]
   exact HR.out
set_option maxRecDepth 100000 in
set_option maxHeartbeats 8000000 in
theorem typ_calls (x : Ty) (pv : Value) (w : World) (hp : IntsAt w pv x.parts) (hl : x.parts.length ≤ 1000) (h1 : I64 x.elem) (h2 : I64 x.many) (h3 : ∀ n ∈ x.parts, I64 n) (ht : NumL.Tab w) :
  Calls Tryz.prog 42 #[TyP.tyV x pv] w (LineR (tyW x) w) := by
 obtain ⟨pa, pc, rfl, _⟩ := TyP.ints_slice hp
 have HT := hid ht
 have H1 := hid h1
 have H2 := hid h2
 have HM0 := hid (And.intro hp (And.intro hl h3))
 have HE : Hid (tyW x = mk [116, 121, 112, 101] :: (if x.kind = 2 then [mk [112, 116, 114], mkw 116 x.elem] else if x.kind = 3 then mk [102, 110] :: mkw 116 x.elem :: x.parts.map (mkw 116) else if x.kind = 4 then mk [115, 116, 114, 117, 99, 116] :: x.parts.map (mkw 116) else if x.kind = 5 then [mk [97, 114, 114, 97, 121], mkw 116 x.elem, nmw x.many] else [mk [105, 110, 116]])) := rfl
 clear h1 h2 h3 ht hp hl
 obtain ⟨w1, hw1⟩ : ∃ X, X = w.alloc (.cells #[.int .u8 x.kind, .int .i64 x.elem, .int .i64 x.many, .slice pa x.parts.length pc] 77) := ⟨_, rfl⟩
 have k0 : w1.heap[w.heap.size]? = some (.cells #[.int .u8 x.kind, .int .i64 x.elem, .int .i64 x.many, .slice pa x.parts.length pc] 77 (0, 0)) := by rw [hw1]; exact heap_alloc_new _ _
 have hb1 : Below w.heap.size w w1 := by rw [hw1]; exact LxP.alloc_below _ _
 have HW1 := hid hw1
 have HB1 := hid hb1
 have HK0 := hid k0
 have hlt1 : w.heap.size < w1.heap.size := (Array.getElem?_eq_some_iff.1 k0).1
 have l1 := cell_at k0 1 _ rfl
 have l2 := cell_at k0 3 _ rfl
 clear hw1 hb1 k0
 go_enter Tryz.func42, Tryz.ntmps42
 go_wp2_with fail
 rw [← HW1.out]
 go_cut [3, 4] (fun p q wc => ∃ a b : Nat, p = .pointer (some ⟨a, 0, none⟩) ∧ q = .pointer (some ⟨b, 0, none⟩) ∧ wc.heap[a]? = some (.cells #[.string (mk [116]), .int .i64 x.elem] 82 (0, 0)) ∧ wc.heap[b]? = some (.cells #[.string (mk [116]), .slice pa x.parts.length pc] 138 (0, 0)) ∧ Below w1.heap.size w1 wc)
 case first =>
  go_region
  all_goals
   go_wp2_with fail
   go_meet
   case rel =>
    first
    | (obtain ⟨h1, h2, h3⟩ := alloc2 w1 #[.string (mk [116]), .slice pa x.parts.length pc] #[.string (mk [116]), .int .i64 x.elem] 138 82; exact ⟨_, _, rfl, rfl, h2, h1, h3⟩)
    | (obtain ⟨h1, h2, h3⟩ := alloc2 w1 #[.string (mk [116]), .int .i64 x.elem] #[.string (mk [116]), .slice pa x.parts.length pc] 82 138; exact ⟨_, _, rfl, rfl, h1, h2, h3⟩)
 case rest =>
  obtain ⟨a, b, rfl, rfl, ka, kb, hbc⟩ := hcut
  obtain ⟨wd, hwd⟩ : ∃ wd : World, wd = wc := ⟨_, rfl⟩
  subst hwd
  have k0 := (hbc.block _ hlt1).trans HK0.out
  have m0 := cell_at k0 0 _ rfl
  have m2 := cell_at k0 2 _ rfl
  have a0 := cell_at ka 0 _ rfl
  have a1 := cell_at ka 1 _ rfl
  have b0 := cell_at kb 0 _ rfl
  have b1 := cell_at kb 1 _ rfl
  have hbw := HB1.out.trans (hbc.mono HB1.out.size)
  have HBW := hid hbw
  have HTW := hid (HT.out.on hbw)
  have HM : Hid (Pt.At wd (.marks 116 x.parts (.slice pa x.parts.length pc))) := ⟨HM0.out.1.below hbw, HM0.out.2⟩
  clear l1 l2 k0 ka kb hbc hbw HB1 HK0 HT HW1 HM0
  by_cases q2 : x.kind = 2
  ·have HE1 := hid (HE.out.trans (congrArg _ (if_pos q2)))
   clear HE
   have HC := hid (line_lit (w1 := wd) (l := [.word (mk [116, 121, 112, 101]), .word (mk [112, 116, 114]), .mark 116 x.elem]) (n := 3) (ty := 144) rfl (by decide) rfl (allc trivial (allc trivial (all1 H1.out))) (Nat.le_of_ble_eq_true rfl) HTW.out)
   rw [show wordsAll [.word (mk [116, 121, 112, 101]), .word (mk [112, 116, 114]), .mark 116 x.elem] = tyW x from by rw [HE1.out]; simp [wordsAll, Pt.words]] at HC
   go_wp2_with fail
   refine HC.out.mono ?_
   rintro e w5 ⟨u, rfl, ho, hb⟩
   clear HC m0 m2 a0 a1 b0 b1
   obtain ⟨ua, uc, rfl⟩ := own_form ho
   have HR := hid (LineR.up ⟨_, rfl, ho, hb⟩ HBW.out)
   go_wp2
   go_ret
   exact HR.out
  have HE2 := hid (HE.out.trans (congrArg _ (if_neg q2)))
  clear HE
  by_cases q3 : x.kind = 3
  ·have HE1 := hid (HE2.out.trans (congrArg _ (if_pos q3)))
   clear HE2
   have HC := hid (line_lit (w1 := wd) (l := [.word (mk [116, 121, 112, 101]), .word (mk [102, 110]), .mark 116 x.elem, .marks 116 x.parts (.slice pa x.parts.length pc)]) (n := 4) (ty := 144) rfl (by decide) rfl (allc trivial (allc trivial (allc H1.out (all1 HM.out)))) (by have := HM.out.2.1; simp [wordsAll, Pt.words]; omega) HTW.out)
   rw [show wordsAll [.word (mk [116, 121, 112, 101]), .word (mk [102, 110]), .mark 116 x.elem, .marks 116 x.parts (.slice pa x.parts.length pc)] = tyW x from by rw [HE1.out]; simp [wordsAll, Pt.words]] at HC
   go_wp2_with fail
   refine HC.out.mono ?_
   rintro e w5 ⟨u, rfl, ho, hb⟩
   clear HC m0 m2 a0 a1 b0 b1
   obtain ⟨ua, uc, rfl⟩ := own_form ho
   have HR := hid (LineR.up ⟨_, rfl, ho, hb⟩ HBW.out)
   go_wp2
   go_ret
   exact HR.out
  have HE3 := hid (HE2.out.trans (congrArg _ (if_neg q3)))
  clear HE2
  by_cases q4 : x.kind = 4
  ·have HE1 := hid (HE3.out.trans (congrArg _ (if_pos q4)))
   clear HE3
   have HC := hid (line_lit (w1 := wd) (l := [.word (mk [116, 121, 112, 101]), .word (mk [115, 116, 114, 117, 99, 116]), .marks 116 x.parts (.slice pa x.parts.length pc)]) (n := 3) (ty := 144) rfl (by decide) rfl (allc trivial (allc trivial (all1 HM.out))) (by have := HM.out.2.1; simp [wordsAll, Pt.words]; omega) HTW.out)
   rw [show wordsAll [.word (mk [116, 121, 112, 101]), .word (mk [115, 116, 114, 117, 99, 116]), .marks 116 x.parts (.slice pa x.parts.length pc)] = tyW x from by rw [HE1.out]; simp [wordsAll, Pt.words]] at HC
   go_wp2_with fail
   refine HC.out.mono ?_
   rintro e w5 ⟨u, rfl, ho, hb⟩
   clear HC m0 m2 a0 a1 b0 b1
   obtain ⟨ua, uc, rfl⟩ := own_form ho
   have HR := hid (LineR.up ⟨_, rfl, ho, hb⟩ HBW.out)
   go_wp2
   go_ret
   exact HR.out
  have HE4 := hid (HE3.out.trans (congrArg _ (if_neg q4)))
  clear HE3
  by_cases q5 : x.kind = 5
  ·have HE1 := hid (HE4.out.trans (congrArg _ (if_pos q5)))
   clear HE4
   have HC := hid (line_lit (w1 := wd) (l := [.word (mk [116, 121, 112, 101]), .word (mk [97, 114, 114, 97, 121]), .mark 116 x.elem, .num x.many]) (n := 4) (ty := 144) rfl (by decide) rfl (allc trivial (allc trivial (allc H1.out (all1 H2.out)))) (Nat.le_of_ble_eq_true rfl) HTW.out)
   rw [show wordsAll [.word (mk [116, 121, 112, 101]), .word (mk [97, 114, 114, 97, 121]), .mark 116 x.elem, .num x.many] = tyW x from by rw [HE1.out]; simp [wordsAll, Pt.words]] at HC
   go_wp2_with fail
   refine HC.out.mono ?_
   rintro e w5 ⟨u, rfl, ho, hb⟩
   clear HC m0 m2 a0 a1 b0 b1
   obtain ⟨ua, uc, rfl⟩ := own_form ho
   have HR := hid (LineR.up ⟨_, rfl, ho, hb⟩ HBW.out)
   go_wp2
   go_ret
   exact HR.out
  have HE5 := hid (HE4.out.trans (congrArg _ (if_neg q5)))
  clear HE4
  have HE1 := HE5
  clear HE5
  have HC := hid (line_lit (w1 := wd) (l := [.word (mk [116, 121, 112, 101]), .word (mk [105, 110, 116])]) (n := 2) (ty := 144) rfl (by decide) rfl (allc trivial (all1 trivial)) (Nat.le_of_ble_eq_true rfl) HTW.out)
  rw [show wordsAll [.word (mk [116, 121, 112, 101]), .word (mk [105, 110, 116])] = tyW x from by rw [HE1.out]; simp [wordsAll, Pt.words]] at HC
  go_wp2_with fail
  refine HC.out.mono ?_
  rintro e w5 ⟨u, rfl, ho, hb⟩
  clear HC m0 m2 a0 a1 b0 b1
  obtain ⟨ua, uc, rfl⟩ := own_form ho
  have HR := hid (LineR.up ⟨_, rfl, ho, hb⟩ HBW.out)
  go_wp2
  go_ret
  exact HR.out
end Go.Proofs.YtbebficgcemkoaaGreatDoor.WkT
