/- Walks over shape.Check, find and Regs. Walk over fescuelaw07.chapter. -/
import Derived.Test.YtpkgkeclkbidiaaDoorZShH
import Derived.Test.YtpkgkeclkbidiaaDoorZTyEToTyS
import Derived.Test.YtpkgkeclkbidiaaDoorZShAToShAn
import Derived.Test.YtpkgkeclkbidiaaDoorZTyW
namespace Go.Proofs.YtpkgkeclkbidiaaDoor.ShI
open Go.RowKit Go.Lib SetP IntO TyM TyP TyB TyC ShM ShP ShA ShB ShC ShE ShQ ShF ShG ShH

/-- the kinds of a program's numbers -/
def POk (p : Px) : Prop := ∀ f ∈ p.funcs, ∀ b ∈ f.blocks, (0 ≤ b.en.kind ∧ b.en.kind ≤ 255) ∧ ∀ y ∈ b.ins, 0 ≤ y.op ∧ y.op ≤ 255
def chkP (p : Px) : Int := if chkT p.types ≠ 0 then chkT p.types else if p.funcs.length < 1 ∨ 8 < p.funcs.length then 60 else if p.funcs.all (mayF p.types p.funcs.length) = true then 0 else 60
def findP (p : Px) (f : Int) : Int := if chkP p ≠ 0 then chkP p else if 0 ≤ f ∧ f < p.funcs.length then 0 else 2
theorem all_take {α : Type} {q : α → Bool} {l : List α} {k : Nat} (hk : k < l.length) (h : (l.take k).all q = true) (hp : q l[k] = true) : (l.take (k + 1)).all q = true := by
  rw [List.take_succ_eq_append_getElem hk, List.all_append, h]
  simp [hp]
theorem all_not {α : Type} {q : α → Bool} {l : List α} {k : Nat} (hk : k < l.length) (hp : q l[k] = false) : ¬ l.all q = true := fun h => by
  have := List.all_eq_true.1 h _ (List.getElem_mem hk)
  rw [hp] at this; cases this

set_option maxRecDepth 100000 in
set_option maxHeartbeats 8000000 in
theorem check_calls (p : Px) (v : Value) (w : World) (hp : PrAt w v p) (htab : Tab w) (hs : Small p) (hok : POk p) :
    Calls Tryd.prog 12 #[v] w (NumR (chkP p) w) := by
  obtain ⟨vt, vf, rfl, ht, hf⟩ := hp
  have hb0 := alloc_below w (.cells #[vt, vf] 25)
  have HCK := hid (TyS.check_calls p.types vt _ (ht.below hb0))
  have HT := hid ht
  have HF := hid hf
  have HTAB := hid htab
  have HB0 := hid hb0
  have HS := hid hs
  have HOK := hid hok
  obtain ⟨ta, tc, rfl⟩ := ht.slice
  obtain ⟨fa, fc, rfl, hfl⟩ := hf.slice
  have HD : Hid (chkP p = if chkT p.types ≠ 0 then chkT p.types else if p.funcs.length < 1 ∨ 8 < p.funcs.length then 60 else if p.funcs.all (mayF p.types p.funcs.length) = true then 0 else 60) := rfl
  clear ht hf htab hb0 hs hok
  generalize chkP p = ans at *
  by_cases hc : chkT p.types = 0
  rotate_left
  · rw [if_pos hc] at HD
    have e0 : (chkT p.types != 0) = true := by simpa using hc
    generalize chkT p.types = ct at *
    clear HT HF HTAB HS HOK
    generalize p.types.length = n1 at *
    generalize p.funcs.length = n2 at *
    go_enter Tryd.func12, Tryd.ntmps12
    go_wp2_with fail
    refine HCK.out.mono ?_
    rintro e w1 ⟨rfl, hb1⟩
    have hbe := HB0.out.trans (hb1.mono HB0.out.size)
    clear HCK hb1 hc
    go_wp2
    go_ret
    exact ⟨by rw [HD.out]; rfl, hbe⟩
  rw [if_neg (fun h => h hc)] at HD
  rw [hc] at HCK
  clear hc
  by_cases hn : p.funcs.length < 1 ∨ 8 < p.funcs.length
  · rw [if_pos hn] at HD
    clear HT HF HTAB HS HOK
    generalize p.types.length = n1 at *
    generalize p.funcs.length = n2 at *
    by_cases hn1 : (n2 : Int) < 1
    · skip
      go_enter Tryd.func12, Tryd.ntmps12
      go_wp2_with fail
      refine HCK.out.mono ?_
      rintro e w1 ⟨rfl, hb1⟩
      obtain ⟨f1, _, s1, _⟩ := copyF (alloc_new _ _) hb1 (by simp only [World.size_alloc]; omega)
      have hbe := HB0.out.trans (hb1.mono HB0.out.size)
      have p0 := f1 0 (by simp); have p1 := f1 1 (by simp)
      simp only [List.getElem_toArray, List.getElem_cons_succ, List.getElem_cons_zero] at p0 p1
      clear HCK hb1 f1 hn
      go_wp2
      all_goals (try (exfalso; omega))
      go_ret
      exact ⟨by rw [HD.out]; rfl, hbe⟩
    · have h17 : (8 : Int) < n2 := by omega
      go_enter Tryd.func12, Tryd.ntmps12
      go_wp2_with fail
      refine HCK.out.mono ?_
      rintro e w1 ⟨rfl, hb1⟩
      obtain ⟨f1, _, s1, _⟩ := copyF (alloc_new _ _) hb1 (by simp only [World.size_alloc]; omega)
      have hbe := HB0.out.trans (hb1.mono HB0.out.size)
      have p0 := f1 0 (by simp); have p1 := f1 1 (by simp)
      simp only [List.getElem_toArray, List.getElem_cons_succ, List.getElem_cons_zero] at p0 p1
      clear HCK hb1 f1 hn
      go_wp2
      all_goals (try (exfalso; omega))
      go_ret
      exact ⟨by rw [HD.out]; rfl, hbe⟩
  rw [if_neg hn] at HD
  have g1 : ¬ (p.funcs.length : Int) < 1 := by omega
  have g8 : ¬ (8 : Int) < p.funcs.length := by omega
  have hn10 : p.funcs.length ≤ 10 := by omega
  clear hn
  go_enter Tryd.func12, Tryd.ntmps12
  go_wp2_with fail
  refine HCK.out.mono ?_
  rintro e w1 ⟨rfl, hb1⟩
  have hbe := HB0.out.trans (hb1.mono HB0.out.size)
  obtain ⟨f1, _, s1, k1⟩ := copyF (alloc_new _ _) hb1 (by simp only [World.size_alloc]; omega)
  have p0 := f1 0 (by simp); have p1 := f1 1 (by simp)
  simp only [List.getElem_toArray, List.getElem_cons_succ, List.getElem_cons_zero] at p0 p1
  have HK1 := hid k1
  have HBE := hid hbe
  clear HCK hb1 f1 k1 hbe
  go_wp2_with fail
  all_goals (try (exfalso; omega))
  go_loopg [25] p.funcs.length (fun gk i wr => ∃ k : Nat, k + gk = p.funcs.length ∧ i = .int .i64 k ∧ (p.funcs.take k).all (mayF p.types p.funcs.length) = true ∧ Below w1.heap.size w1 wr)
  case atStart => exact ⟨0, by omega, rfl, rfl, Below.refl _ _⟩
  case round =>
    obtain ⟨k, hk, rfl, hall, hbr⟩ := hrel
    have HK := hid hk
    have HALL := hid hall
    have hbw := HBE.out.trans (hbr.mono HBE.out.size)
    clear p0 p1
    obtain ⟨f1, _, s1, _⟩ := copyF HK1.out hbr (Array.getElem?_eq_some_iff.1 HK1.out).1
    have p0 := f1 0 (by simp); have p1 := f1 1 (by simp)
    simp only [List.getElem_toArray, List.getElem_cons_succ, List.getElem_cons_zero] at p0 p1
    clear hall f1
    by_cases hlt : k < p.funcs.length
    · obtain ⟨b, off, rfl, hbs, vb, c0, c1, hbl⟩ := (HF.out.below fnStays hbw).at k hlt
      have hb2 := alloc_below wr (.cells #[.int .i64 p.funcs[k].sig, vb] 31)
      have hmem := List.getElem_mem hlt
      have HC := hid (mayFunc_calls p.types p.funcs.length p.funcs[k] (.slice ta p.types.length tc) vb (some ⟨b, off, none⟩) fc _ ((HT.out.below hbw).below hb2) (hbl.below blkStays hb2) ((HTAB.out.on hbw).on hb2) (HS.out.many _ hmem) HS.out.parts (HOK.out _ hmem))
      have HA := hid (all_take (q := mayF p.types p.funcs.length) hlt HALL.out)
      have HN := hid (all_not (q := mayF p.types p.funcs.length) hlt)
      have hbr2 := hbr.trans (hb2.mono hbr.size)
      obtain ⟨va, vc, rfl, _⟩ := hbl.slice
      have HBR := hid hbr2
      clear hbl hk hmem hbr hb2 hbr2
      generalize mayF p.types p.funcs.length p.funcs[k] = q at *
      generalize p.funcs[k] = x at *
      cases q with
      | false =>
        have HN2 := hid (HN.out rfl)
        clear HA HN
        go_wp2_with fail
        refine HC.out.mono ?_
        rintro e w3 ⟨rfl, hb3⟩
        have hbe3 := HBR.out.trans (hb3.mono HBR.out.size)
        clear HC hb3
        go_wp2
        go_ret
        exact ⟨by rw [HD.out, if_neg HN2.out]; rfl, HBE.out.trans (hbe3.mono HBE.out.size)⟩
      | true =>
        have HA2 := hid (HA.out rfl)
        clear HA HN
        go_wp2_with fail
        refine HC.out.mono ?_
        rintro e w3 ⟨rfl, hb3⟩
        have hbe3 := HBR.out.trans (hb3.mono HBR.out.size)
        clear HC hb3
        go_wp2
        go_roundg (gk - 1)
        case measure => have := HK.out; omega
        case rel => exact ⟨k + 1, by have := HK.out; omega, by go_num, HA2.out, hbe3⟩
    · obtain rfl : k = p.funcs.length := by omega
      have HA2 : Hid (ans = 0) := by
        show _ = _
        have := HALL.out
        rw [List.take_length] at this
        rw [HD.out, if_pos this]
      clear hk
      go_wp2
      go_ret
      exact ⟨by rw [HA2.out]; rfl, hbw⟩

end Go.Proofs.YtpkgkeclkbidiaaDoor.ShI
namespace Go.Proofs.YtpkgkeclkbidiaaDoor.RdX
open Go.RowKit Go.Lib SetP IntO TyM TyP TyB TyC ShM ShP ShA ShB ShC ShE ShQ ShF ShG ShH ShI

/-- the chapter's program, with an instruction in the place of its second one -/
def ix0 : Ix := ⟨1, 0, 0, 0, 5, [], []⟩
def ix1 : Ix := ⟨4, 0, 0, 0, 0, [], []⟩
def chP (x : Ix) : Px := ⟨[⟨1, 0, 0, []⟩, ⟨3, 0, 0, []⟩], [⟨1, [⟨[ix0], ⟨1, 0, 1, 0⟩⟩, ⟨[x], ⟨3, 1, 0, 0⟩⟩]⟩]⟩
abbrev chapP : Px := chP ix1
def chW (w : World) (c : Array Value) : World := ((((((((w.alloc (.cells #[.slice (some ⟨w.heap.size + 1 + 1 + 1 + 1 + 1, 0, none⟩) 2 2, .slice (some ⟨w.heap.size + 1 + 1 + 1 + 1 + 1 + 1 + 1, 0, none⟩) 1 1] 25)).alloc (.cells #[.int .u8 1, .int .i64 0, .int .i64 0, .int .i64 0, .int .i64 5, .slice none 0 0, .slice none 0 0] 39)).alloc (.cells #[.slice (some ⟨w.heap.size + 1, 0, none⟩) 1 1, .int .u8 1, .int .i64 0, .int .i64 1, .int .i64 0] 36)).alloc (.cells c 39)).alloc (.cells #[.slice (some ⟨w.heap.size + 1 + 1 + 1, 0, none⟩) 1 1, .int .u8 3, .int .i64 1, .int .i64 0, .int .i64 0] 36)).alloc (.cells #[.int .u8 1, .int .i64 0, .int .i64 0, .slice none 0 0, .int .u8 3, .int .i64 0, .int .i64 0, .slice none 0 0] 41)).alloc (.cells #[.slice (some ⟨w.heap.size + 1, 0, none⟩) 1 1, .int .u8 1, .int .i64 0, .int .i64 1, .int .i64 0, .slice (some ⟨w.heap.size + 1 + 1 + 1, 0, none⟩) 1 1, .int .u8 3, .int .i64 1, .int .i64 0, .int .i64 0] 36)).alloc (.cells #[.int .i64 1, .slice (some ⟨w.heap.size + 1 + 1 + 1 + 1 + 1 + 1, 0, none⟩) 2 2] 31))
abbrev chC : Array Value := #[.int .u8 4, .int .i64 0, .int .i64 0, .int .i64 0, .int .i64 0, .slice none 0 0, .slice none 0 0]
abbrev chV (w : World) : Value := .agg #[.slice (some ⟨w.heap.size + 1 + 1 + 1 + 1 + 1, 0, none⟩) 2 2, .slice (some ⟨w.heap.size + 1 + 1 + 1 + 1 + 1 + 1 + 1, 0, none⟩) 1 1]
theorem alloc_newn (w : World) (o : Obj) (n : Nat) (h : w.heap.size = n) : (w.alloc o).heap[n]? = some o := by subst h; exact alloc_new w o
theorem h0 (w : World) (c : Array Value) : (chW w c).heap[w.heap.size]? = some (.cells #[.slice (some ⟨w.heap.size + 1 + 1 + 1 + 1 + 1, 0, none⟩) 2 2, .slice (some ⟨w.heap.size + 1 + 1 + 1 + 1 + 1 + 1 + 1, 0, none⟩) 1 1] 25 (0, 0)) := alloc_old (alloc_old (alloc_old (alloc_old (alloc_old (alloc_old (alloc_old (alloc_new _ _) _) _) _) _) _) _) _
theorem h1 (w : World) (c : Array Value) : (chW w c).heap[w.heap.size + 1]? = some (.cells #[.int .u8 1, .int .i64 0, .int .i64 0, .int .i64 0, .int .i64 5, .slice none 0 0, .slice none 0 0] 39 (0, 0)) := alloc_old (alloc_old (alloc_old (alloc_old (alloc_old (alloc_old (alloc_newn _ _ _ (by simp only [World.size_alloc])) _) _) _) _) _) _
theorem h2 (w : World) (c : Array Value) : (chW w c).heap[w.heap.size + 1 + 1]? = some (.cells #[.slice (some ⟨w.heap.size + 1, 0, none⟩) 1 1, .int .u8 1, .int .i64 0, .int .i64 1, .int .i64 0] 36 (0, 0)) := alloc_old (alloc_old (alloc_old (alloc_old (alloc_old (alloc_newn _ _ _ (by simp only [World.size_alloc])) _) _) _) _) _
theorem h3 (w : World) (c : Array Value) : (chW w c).heap[w.heap.size + 1 + 1 + 1]? = some (.cells c 39 (0, 0)) := alloc_old (alloc_old (alloc_old (alloc_old (alloc_newn _ _ _ (by simp only [World.size_alloc])) _) _) _) _
theorem h4 (w : World) (c : Array Value) : (chW w c).heap[w.heap.size + 1 + 1 + 1 + 1]? = some (.cells #[.slice (some ⟨w.heap.size + 1 + 1 + 1, 0, none⟩) 1 1, .int .u8 3, .int .i64 1, .int .i64 0, .int .i64 0] 36 (0, 0)) := alloc_old (alloc_old (alloc_old (alloc_newn _ _ _ (by simp only [World.size_alloc])) _) _) _
theorem h5 (w : World) (c : Array Value) : (chW w c).heap[w.heap.size + 1 + 1 + 1 + 1 + 1]? = some (.cells #[.int .u8 1, .int .i64 0, .int .i64 0, .slice none 0 0, .int .u8 3, .int .i64 0, .int .i64 0, .slice none 0 0] 41 (0, 0)) := alloc_old (alloc_old (alloc_newn _ _ _ (by simp only [World.size_alloc])) _) _
theorem h6 (w : World) (c : Array Value) : (chW w c).heap[w.heap.size + 1 + 1 + 1 + 1 + 1 + 1]? = some (.cells #[.slice (some ⟨w.heap.size + 1, 0, none⟩) 1 1, .int .u8 1, .int .i64 0, .int .i64 1, .int .i64 0, .slice (some ⟨w.heap.size + 1 + 1 + 1, 0, none⟩) 1 1, .int .u8 3, .int .i64 1, .int .i64 0, .int .i64 0] 36 (0, 0)) := alloc_old (alloc_newn _ _ _ (by simp only [World.size_alloc])) _
theorem h7 (w : World) (c : Array Value) : (chW w c).heap[w.heap.size + 1 + 1 + 1 + 1 + 1 + 1 + 1]? = some (.cells #[.int .i64 1, .slice (some ⟨w.heap.size + 1 + 1 + 1 + 1 + 1 + 1, 0, none⟩) 2 2] 31 (0, 0)) := alloc_newn _ _ _ (by simp only [World.size_alloc])
theorem chW_below (w : World) (c : Array Value) : Below w.heap.size w (chW w c) := by
  unfold chW
  repeat' (first | exact alloc_below _ _ | refine Below.alloc ?_ (by simp only [World.size_alloc]; omega) _)
theorem chW_size (w : World) (c : Array Value) : (chW w c).heap.size = w.heap.size + 1 + 1 + 1 + 1 + 1 + 1 + 1 + 1 := by
  unfold chW
  simp only [World.size_alloc]

/-- a row in a block of its own -/
theorem row_block {α : Type} {sz : Nat} {In : World → Nat → Nat → α → Prop} {W : World} {b n : Nat} {l : List α} (hb : b < W.heap.size) (hn : n = l.length) (hl : l.length ≤ 100000) (hin : ∀ i (h : i < l.length), In W b (0 + i * sz) l[i]) : RowAt sz In W (.slice (some ⟨b, 0, none⟩) n n) l := by
  subst hn
  exact ⟨some ⟨b, 0, none⟩, l.length, rfl, by omega, fun _ => ⟨b, 0, rfl, hb, hin⟩, (fun h => by cases h), Nat.le_refl _⟩
theorem cells_of {W : World} {b : Nat} {cs : Array Value} {ty : TypeId} (h : W.heap[b]? = some (.cells cs ty (0, 0))) (i : Nat) (v : Value) (hv : cs[i]? = some v) : W.cell? ⟨b, i, none⟩ = some v := by
  unfold World.cell?; rw [h]; exact hv
theorem lt_of {W : World} {b : Nat} {o : Obj} (h : W.heap[b]? = some o) : b < W.heap.size := (Array.getElem?_eq_some_iff.1 h).1
set_option maxRecDepth 100000 in
theorem chW_prog (w W : World) (x : Ix) (va vf : Value) (hW : Below (chW w #[.int .u8 x.op, .int .i64 x.typ, .int .i64 x.a, .int .i64 x.b, .int .i64 x.n, va, vf]).heap.size (chW w #[.int .u8 x.op, .int .i64 x.typ, .int .i64 x.a, .int .i64 x.b, .int .i64 x.n, va, vf]) W) (ha : IntsAt W va x.args) (hf : IntsAt W vf x.frm) : PrAt W (chV w) (chP x) := by
  have k1 := keepBlk hW (h1 w _)
  have k3 := keepBlk hW (h3 w _)
  have k5 := keepBlk hW (h5 w _)
  have k6 := keepBlk hW (h6 w _)
  have k7 := keepBlk hW (h7 w _)
  have i0 : InsAt W (.slice (some ⟨w.heap.size + 1, 0, none⟩) 1 1) [ix0] := row_block (lt_of k1) rfl (by simp) fun i h => by
    obtain rfl : i = 0 := by simpa using h
    exact ⟨.slice none 0 0, .slice none 0 0, cells_of k1 0 _ rfl, cells_of k1 1 _ rfl, cells_of k1 2 _ rfl, cells_of k1 3 _ rfl, cells_of k1 4 _ rfl, cells_of k1 5 _ rfl, cells_of k1 6 _ rfl, ints_none W, ints_none W⟩
  have i1 : InsAt W (.slice (some ⟨w.heap.size + 1 + 1 + 1, 0, none⟩) 1 1) [x] := row_block (lt_of k3) rfl (by simp) fun i h => by
    obtain rfl : i = 0 := by simpa using h
    exact ⟨va, vf, cells_of k3 0 _ rfl, cells_of k3 1 _ rfl, cells_of k3 2 _ rfl, cells_of k3 3 _ rfl, cells_of k3 4 _ rfl, cells_of k3 5 _ rfl, cells_of k3 6 _ rfl, ha, hf⟩
  refine ⟨_, _, rfl, ?_, ?_⟩
  · refine ⟨some ⟨w.heap.size + 1 + 1 + 1 + 1 + 1, 0, none⟩, 2, rfl, by simp [chP], fun _ => ⟨w.heap.size + 1 + 1 + 1 + 1 + 1, 0, rfl, lt_of k5, fun i h => ?_⟩, (fun h => by cases h), by simp [chP]⟩
    have hi : i = 0 ∨ i = 1 := by
      have : i < 2 := h
      omega
    rcases hi with rfl | rfl
    · exact ⟨.slice none 0 0, cells_of k5 0 _ rfl, cells_of k5 1 _ rfl, cells_of k5 2 _ rfl, cells_of k5 3 _ rfl, ints_none W⟩
    · exact ⟨.slice none 0 0, cells_of k5 4 _ rfl, cells_of k5 5 _ rfl, cells_of k5 6 _ rfl, cells_of k5 7 _ rfl, ints_none W⟩
  · refine row_block (lt_of k7) rfl (by simp [chP]) fun i h => ?_
    obtain rfl : i = 0 := by
      have : i < 1 := h
      omega
    refine ⟨_, cells_of k7 0 _ rfl, cells_of k7 1 _ rfl, ?_⟩
    refine row_block (lt_of k6) rfl (by simp [chP]) fun i h => ?_
    have hi : i = 0 ∨ i = 1 := by
      have : i < 2 := h
      omega
    rcases hi with rfl | rfl
    · exact ⟨_, cells_of k6 0 _ rfl, cells_of k6 1 _ rfl, cells_of k6 2 _ rfl, cells_of k6 3 _ rfl, cells_of k6 4 _ rfl, i0⟩
    · exact ⟨_, cells_of k6 5 _ rfl, cells_of k6 6 _ rfl, cells_of k6 7 _ rfl, cells_of k6 8 _ rfl, cells_of k6 9 _ rfl, i1⟩
set_option maxRecDepth 100000 in
set_option maxHeartbeats 8000000 in
theorem chapter_calls (w : World) : Calls Tryd.prog 17 #[] w fun e w' => e = .returned (chV w) ∧ w' = chW w chC := by
  go_enter Tryd.func17, Tryd.ntmps17
  go_wp2
  go_returns
  exact ⟨rfl, rfl⟩
/-- the chapter's program, in memory -/
theorem chap_calls (w : World) : Calls Tryd.prog 17 #[] w fun e w' => ∃ v, e = .returned v ∧ PrAt w' v chapP ∧ Below w.heap.size w w' :=
  (chapter_calls w).mono fun e w' ⟨h1, h2⟩ => ⟨_, h1, by rw [h2]; exact chW_prog w _ ix1 _ _ (Below.refl _ _) (ints_none _) (ints_none _), by rw [h2]; exact chW_below w _⟩
end Go.Proofs.YtpkgkeclkbidiaaDoor.RdX
