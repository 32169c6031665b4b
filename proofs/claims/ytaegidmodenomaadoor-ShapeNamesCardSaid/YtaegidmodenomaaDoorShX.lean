/- Walks over fescuelaw06.chapter and alive. -/
import Derived.Test.YtaegidmodenomaaDoorShL
import Derived.Test.YtaegidmodenomaaDoorShA
import Derived.Test.YtaegidmodenomaaDoorTyW
namespace Go.Proofs.YtaegidmodenomaaDoor.ShX
open Go.RowKit Go.Lib SetP IntO TyM TyP TyB TyC ShM ShP ShA ShB ShC ShE ShQ ShF ShG ShH ShI ShJ ShK ShL

/-- the chapter's program, with an instruction in the place of its second one -/
def ix0 : Ix := ⟨1, 0, 0, 0, 5, [], []⟩
def ix1 : Ix := ⟨4, 0, 0, 0, 0, [], []⟩
def chP (x : Ix) : Px := ⟨[⟨1, 0, 0, []⟩, ⟨3, 0, 0, []⟩], [⟨1, [⟨[ix0], ⟨1, 0, 1, 0⟩⟩, ⟨[x], ⟨3, 1, 0, 0⟩⟩]⟩]⟩
abbrev chapP : Px := chP ix1
def chW (w : World) (c : Array Value) : World := ((((((((w.alloc (.cells #[.slice (some ⟨w.heap.size + 1 + 1 + 1 + 1 + 1, 0, none⟩) 2 2, .slice (some ⟨w.heap.size + 1 + 1 + 1 + 1 + 1 + 1 + 1, 0, none⟩) 1 1] 29)).alloc (.cells #[.int .u8 1, .int .i64 0, .int .i64 0, .int .i64 0, .int .i64 5, .slice none 0 0, .slice none 0 0] 25)).alloc (.cells #[.slice (some ⟨w.heap.size + 1, 0, none⟩) 1 1, .int .u8 1, .int .i64 0, .int .i64 1, .int .i64 0] 38)).alloc (.cells c 25)).alloc (.cells #[.slice (some ⟨w.heap.size + 1 + 1 + 1, 0, none⟩) 1 1, .int .u8 3, .int .i64 1, .int .i64 0, .int .i64 0] 38)).alloc (.cells #[.int .u8 1, .int .i64 0, .int .i64 0, .slice none 0 0, .int .u8 3, .int .i64 0, .int .i64 0, .slice none 0 0] 65)).alloc (.cells #[.slice (some ⟨w.heap.size + 1, 0, none⟩) 1 1, .int .u8 1, .int .i64 0, .int .i64 1, .int .i64 0, .slice (some ⟨w.heap.size + 1 + 1 + 1, 0, none⟩) 1 1, .int .u8 3, .int .i64 1, .int .i64 0, .int .i64 0] 38)).alloc (.cells #[.int .i64 1, .slice (some ⟨w.heap.size + 1 + 1 + 1 + 1 + 1 + 1, 0, none⟩) 2 2] 33))
abbrev chC : Array Value := #[.int .u8 4, .int .i64 0, .int .i64 0, .int .i64 0, .int .i64 0, .slice none 0 0, .slice none 0 0]
abbrev chV (w : World) : Value := .agg #[.slice (some ⟨w.heap.size + 1 + 1 + 1 + 1 + 1, 0, none⟩) 2 2, .slice (some ⟨w.heap.size + 1 + 1 + 1 + 1 + 1 + 1 + 1, 0, none⟩) 1 1]
theorem alloc_newn (w : World) (o : Obj) (n : Nat) (h : w.heap.size = n) : (w.alloc o).heap[n]? = some o := by subst h; exact alloc_new w o
theorem h0 (w : World) (c : Array Value) : (chW w c).heap[w.heap.size]? = some (.cells #[.slice (some ⟨w.heap.size + 1 + 1 + 1 + 1 + 1, 0, none⟩) 2 2, .slice (some ⟨w.heap.size + 1 + 1 + 1 + 1 + 1 + 1 + 1, 0, none⟩) 1 1] 29 (0, 0)) := alloc_old (alloc_old (alloc_old (alloc_old (alloc_old (alloc_old (alloc_old (alloc_new _ _) _) _) _) _) _) _) _
theorem h1 (w : World) (c : Array Value) : (chW w c).heap[w.heap.size + 1]? = some (.cells #[.int .u8 1, .int .i64 0, .int .i64 0, .int .i64 0, .int .i64 5, .slice none 0 0, .slice none 0 0] 25 (0, 0)) := alloc_old (alloc_old (alloc_old (alloc_old (alloc_old (alloc_old (alloc_newn _ _ _ (by simp only [World.size_alloc])) _) _) _) _) _) _
theorem h2 (w : World) (c : Array Value) : (chW w c).heap[w.heap.size + 1 + 1]? = some (.cells #[.slice (some ⟨w.heap.size + 1, 0, none⟩) 1 1, .int .u8 1, .int .i64 0, .int .i64 1, .int .i64 0] 38 (0, 0)) := alloc_old (alloc_old (alloc_old (alloc_old (alloc_old (alloc_newn _ _ _ (by simp only [World.size_alloc])) _) _) _) _) _
theorem h3 (w : World) (c : Array Value) : (chW w c).heap[w.heap.size + 1 + 1 + 1]? = some (.cells c 25 (0, 0)) := alloc_old (alloc_old (alloc_old (alloc_old (alloc_newn _ _ _ (by simp only [World.size_alloc])) _) _) _) _
theorem h4 (w : World) (c : Array Value) : (chW w c).heap[w.heap.size + 1 + 1 + 1 + 1]? = some (.cells #[.slice (some ⟨w.heap.size + 1 + 1 + 1, 0, none⟩) 1 1, .int .u8 3, .int .i64 1, .int .i64 0, .int .i64 0] 38 (0, 0)) := alloc_old (alloc_old (alloc_old (alloc_newn _ _ _ (by simp only [World.size_alloc])) _) _) _
theorem h5 (w : World) (c : Array Value) : (chW w c).heap[w.heap.size + 1 + 1 + 1 + 1 + 1]? = some (.cells #[.int .u8 1, .int .i64 0, .int .i64 0, .slice none 0 0, .int .u8 3, .int .i64 0, .int .i64 0, .slice none 0 0] 65 (0, 0)) := alloc_old (alloc_old (alloc_newn _ _ _ (by simp only [World.size_alloc])) _) _
theorem h6 (w : World) (c : Array Value) : (chW w c).heap[w.heap.size + 1 + 1 + 1 + 1 + 1 + 1]? = some (.cells #[.slice (some ⟨w.heap.size + 1, 0, none⟩) 1 1, .int .u8 1, .int .i64 0, .int .i64 1, .int .i64 0, .slice (some ⟨w.heap.size + 1 + 1 + 1, 0, none⟩) 1 1, .int .u8 3, .int .i64 1, .int .i64 0, .int .i64 0] 38 (0, 0)) := alloc_old (alloc_newn _ _ _ (by simp only [World.size_alloc])) _
theorem h7 (w : World) (c : Array Value) : (chW w c).heap[w.heap.size + 1 + 1 + 1 + 1 + 1 + 1 + 1]? = some (.cells #[.int .i64 1, .slice (some ⟨w.heap.size + 1 + 1 + 1 + 1 + 1 + 1, 0, none⟩) 2 2] 33 (0, 0)) := alloc_newn _ _ _ (by simp only [World.size_alloc])
theorem chW_below (w : World) (c : Array Value) : Below w.heap.size w (chW w c) := by
  unfold chW
  repeat' (first | exact alloc_below _ _ | refine Below.alloc ?_ (by simp only [World.size_alloc]; omega) _)
theorem chW_size (w : World) (c : Array Value) : (chW w c).heap.size = w.heap.size + 1 + 1 + 1 + 1 + 1 + 1 + 1 + 1 := by
  unfold chW
  simp only [World.size_alloc]

/-- a row in a block of its own -/
theorem row_block {α : Type} {sz : Nat} {In : World → Nat → Nat → α → Prop} {W : World} {b n : Nat} {l : List α} (hb : b < W.heap.size) (hn : n = l.length) (hl : l.length ≤ 100000) (hin : ∀ i (h : i < l.length), In W b (0 + i * sz) l[i]) : RowAt sz In W (.slice (some ⟨b, 0, none⟩) n n) l := by
  subst hn
  exact ⟨some ⟨b, 0, none⟩, l.length, rfl, by omega, fun _ => ⟨b, 0, rfl, hb, hin⟩, (fun h => by cases h), Nat.le_refl _⟩
theorem cells_of {W : World} {b : Nat} {cs : Array Value} {ty : TypeId} (h : W.heap[b]? = some (.cells cs ty (0, 0))) (i : Nat) (v : Value) (hv : cs[i]? = some v) : W.cell? ⟨b, i, none⟩ = some v := by
  unfold World.cell?; rw [h]; exact hv
theorem lt_of {W : World} {b : Nat} {o : Obj} (h : W.heap[b]? = some o) : b < W.heap.size := (Array.getElem?_eq_some_iff.1 h).1
set_option maxRecDepth 100000 in
theorem chW_prog (w W : World) (x : Ix) (va vf : Value) (hW : Below (chW w #[.int .u8 x.op, .int .i64 x.typ, .int .i64 x.a, .int .i64 x.b, .int .i64 x.n, va, vf]).heap.size (chW w #[.int .u8 x.op, .int .i64 x.typ, .int .i64 x.a, .int .i64 x.b, .int .i64 x.n, va, vf]) W) (ha : IntsAt W va x.args) (hf : IntsAt W vf x.frm) : PrAt W (chV w) (chP x) := by
  have k1 := keepBlk hW (h1 w _)
  have k3 := keepBlk hW (h3 w _)
  have k5 := keepBlk hW (h5 w _)
  have k6 := keepBlk hW (h6 w _)
  have k7 := keepBlk hW (h7 w _)
  have i0 : InsAt W (.slice (some ⟨w.heap.size + 1, 0, none⟩) 1 1) [ix0] := row_block (lt_of k1) rfl (by simp) fun i h => by
    obtain rfl : i = 0 := by simpa using h
    exact ⟨.slice none 0 0, .slice none 0 0, cells_of k1 0 _ rfl, cells_of k1 1 _ rfl, cells_of k1 2 _ rfl, cells_of k1 3 _ rfl, cells_of k1 4 _ rfl, cells_of k1 5 _ rfl, cells_of k1 6 _ rfl, ints_none W, ints_none W⟩
  have i1 : InsAt W (.slice (some ⟨w.heap.size + 1 + 1 + 1, 0, none⟩) 1 1) [x] := row_block (lt_of k3) rfl (by simp) fun i h => by
    obtain rfl : i = 0 := by simpa using h
    exact ⟨va, vf, cells_of k3 0 _ rfl, cells_of k3 1 _ rfl, cells_of k3 2 _ rfl, cells_of k3 3 _ rfl, cells_of k3 4 _ rfl, cells_of k3 5 _ rfl, cells_of k3 6 _ rfl, ha, hf⟩
  refine ⟨_, _, rfl, ?_, ?_⟩
  · refine ⟨some ⟨w.heap.size + 1 + 1 + 1 + 1 + 1, 0, none⟩, 2, rfl, by simp [chP], fun _ => ⟨w.heap.size + 1 + 1 + 1 + 1 + 1, 0, rfl, lt_of k5, fun i h => ?_⟩, (fun h => by cases h), by simp [chP]⟩
    have hi : i = 0 ∨ i = 1 := by
      have : i < 2 := h
      omega
    rcases hi with rfl | rfl
    · exact ⟨.slice none 0 0, cells_of k5 0 _ rfl, cells_of k5 1 _ rfl, cells_of k5 2 _ rfl, cells_of k5 3 _ rfl, ints_none W⟩
    · exact ⟨.slice none 0 0, cells_of k5 4 _ rfl, cells_of k5 5 _ rfl, cells_of k5 6 _ rfl, cells_of k5 7 _ rfl, ints_none W⟩
  · refine row_block (lt_of k7) rfl (by simp [chP]) fun i h => ?_
    obtain rfl : i = 0 := by
      have : i < 1 := h
      omega
    refine ⟨_, cells_of k7 0 _ rfl, cells_of k7 1 _ rfl, ?_⟩
    refine row_block (lt_of k6) rfl (by simp [chP]) fun i h => ?_
    have hi : i = 0 ∨ i = 1 := by
      have : i < 2 := h
      omega
    rcases hi with rfl | rfl
    · exact ⟨_, cells_of k6 0 _ rfl, cells_of k6 1 _ rfl, cells_of k6 2 _ rfl, cells_of k6 3 _ rfl, cells_of k6 4 _ rfl, i0⟩
    · exact ⟨_, cells_of k6 5 _ rfl, cells_of k6 6 _ rfl, cells_of k6 7 _ rfl, cells_of k6 8 _ rfl, cells_of k6 9 _ rfl, i1⟩
set_option maxRecDepth 100000 in
set_option maxHeartbeats 8000000 in
theorem chapter_calls (w : World) : Calls Tryd.prog 9 #[] w fun e w' => e = .returned (chV w) ∧ w' = chW w chC := by
  go_enter Tryd.func9, Tryd.ntmps9
  go_wp2
  go_returns
  exact ⟨rfl, rfl⟩
/-- the chapter's program, in memory -/
theorem chap_calls (w : World) : Calls Tryd.prog 9 #[] w fun e w' => ∃ v, e = .returned v ∧ PrAt w' v chapP ∧ Below w.heap.size w w' :=
  (chapter_calls w).mono fun e w' ⟨h1, h2⟩ => ⟨_, h1, by rw [h2]; exact chW_prog w _ ix1 _ _ (Below.refl _ _) (ints_none _) (ints_none _), by rw [h2]; exact chW_below w _⟩
theorem chap_small : Small chapP := ⟨by decide, by decide, by decide, by decide, by decide, by decide⟩
theorem chap_ok : POk chapP := by unfold POk; decide
theorem chap_facts : chkP chapP = 0 ∧ findP chapP 0 = 0 ∧ cntP chapP 0 = 2 ∧ placeE chapP 0 1 = 0 ∧ placeB chapP 0 1 = 1 ∧ placeI chapP 0 1 = 0 := by decide +kernel

set_option maxRecDepth 100000 in
set_option maxHeartbeats 4000000 in
theorem alive_calls (w : World) (ht : Tab w) : Calls Tryd.prog 13 #[] w (BoolR true w) := by
  have HCH := hid chap_calls
  obtain ⟨q1, q2, q3, q4, q5, q6⟩ := chap_facts
  have HR := hid (fun v wx (h : PrAt wx v chapP) (hb : Below w.heap.size w wx) => regsP_calls chapP 0 v wx h (ht.on hb) chap_small chap_ok)
  have HP := hid (fun v wx (h : PrAt wx v chapP) (hb : Below w.heap.size w wx) => place_calls chapP 0 1 v wx h (ht.on hb) chap_small chap_ok (by decide))
  have HC := hid (fun v wx (h : PrAt wx v chapP) (hb : Below w.heap.size w wx) => check_calls chapP v wx h (ht.on hb) chap_small chap_ok)
  have HA1 := hid (fun wx (hb : Below w.heap.size w wx) => answers_calls 1 (by decide) (by decide) wx (ht.on hb))
  have HA2 := hid (fun wx (hb : Below w.heap.size w wx) => answers_calls 17 (by decide) (by decide) wx (ht.on hb))
  rw [q2, q3, if_pos rfl] at HR
  rw [q4, q5, q6] at HP
  rw [q1] at HC
  rw [show answersB 1 = true from rfl] at HA1
  rw [show answersB 17 = false from rfl] at HA2
  have hb0 := hid (Below.refl w.heap.size w)
  clear q1 q2 q3 q4 q5 q6 ht
  go_enter Tryd.func13, Tryd.ntmps13
  go_wp2_with fail
  refine (HCH.out _).mono ?_
  rintro e w1 ⟨v1, rfl, hp1, hb1⟩
  have HR1 := hid (HR.out v1 w1 hp1 hb1)
  obtain ⟨_, _, rfl, _⟩ := hp1
  clear HR
  go_wp2_with fail
  refine HR1.out.mono ?_
  rintro e w2 ⟨rfl, hb2⟩
  have hbe2 := hb1.trans (hb2.mono hb1.size)
  clear HR1 hb1 hb2
  go_wp2_with fail
  refine (HCH.out _).mono ?_
  rintro e w3 ⟨v3, rfl, hp3, hb3⟩
  have hbe3 := hbe2.trans (hb3.mono hbe2.size)
  have HP1 := hid (HP.out v3 w3 hp3 hbe3)
  obtain ⟨_, _, rfl, _⟩ := hp3
  clear HP hbe2 hb3
  go_wp2_with fail
  refine HP1.out.mono ?_
  rintro e w4 ⟨rfl, hb4⟩
  have hbe4 := hbe3.trans (hb4.mono hbe3.size)
  clear HP1 hbe3 hb4
  go_wp2_with fail
  refine (HCH.out _).mono ?_
  rintro e w5 ⟨v5, rfl, hp5, hb5⟩
  have hbe5 := hbe4.trans (hb5.mono hbe4.size)
  have HC1 := hid (HC.out v5 w5 hp5 hbe5)
  obtain ⟨_, _, rfl, _⟩ := hp5
  clear HC hbe4 hb5 HCH
  go_wp2_with fail
  refine HC1.out.mono ?_
  rintro e w6 ⟨rfl, hb6⟩
  have hbe6 := hbe5.trans (hb6.mono hbe5.size)
  clear HC1 hbe5 hb6
  go_wp2_with fail
  refine (HA1.out w6 hbe6).mono ?_
  rintro e w7 ⟨rfl, hb7⟩
  have hbe7 := hbe6.trans (hb7.mono hbe6.size)
  clear HA1 hbe6 hb7
  go_wp2_with fail
  refine (HA2.out w7 hbe7).mono ?_
  rintro e w8 ⟨rfl, hb8⟩
  have hbe8 := hbe7.trans (hb8.mono hbe7.size)
  clear HA2 hbe7 hb8
  go_wp2
  go_ret
  exact ⟨rfl, hbe8⟩
end Go.Proofs.YtaegidmodenomaaDoor.ShX
