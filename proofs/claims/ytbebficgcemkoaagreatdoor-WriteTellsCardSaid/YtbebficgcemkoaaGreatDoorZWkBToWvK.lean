/- A program's own lines are not too great to be joined. Walk over write.Write. Walks over fescueref08.kind and end. -/
import Derived.Test.YtbebficgcemkoaaGreatDoorZWkP
import Derived.Test.YtbebficgcemkoaaGreatDoorZLxSpToLxV
import Derived.Test.YtbebficgcemkoaaGreatDoorZWrCToWrO
import Derived.Test.YtbebficgcemkoaaGreatDoorZWvM
import Derived.Test.YtbebficgcemkoaaGreatDoorZWkT
import Derived.Deep.RegionHeld3
namespace Go.Proofs.YtbebficgcemkoaaGreatDoor.WkB
open Go.RowKit Go.Lib TyM ShM ShP LxM LxP LxK LxJ LxN RdM RdN RdV NumP WrM WrI WrP WkJ WkF

theorem size_mk (l : List UInt8) : (mk l).size = l.length := by simp [mk, ByteArray.size]
theorem itoa_small : ∀ k : Fin 1000, (itoa (k.val : Int)).length ≤ 3 := by decide +kernel
theorem mkw_small {c : UInt8} {n : Int} (h : Nn n) : (mkw c n).size + 1 ≤ 5 := by
 obtain ⟨h1, h2⟩ := h
 have := itoa_small ⟨n.toNat, by omega⟩
 simp only at this
 rw [Int.toNat_of_nonneg h1] at this
 unfold mkw
 rw [size_mk, List.length_cons]
 omega
theorem mkw_size {c : UInt8} {n : Int} (h : I64 n) : (mkw c n).size + 1 ≤ 22 := by
 have := (itoa_length n h).2
 unfold mkw
 rw [size_mk, List.length_cons]
 omega
theorem nmw_size {n : Int} (h : I64 n) : (nmw n).size + 1 ≤ 22 := by
 have := (itoa_length n h).2
 unfold nmw
 rw [size_mk]
 omega
theorem opw_size {op : Int} (h : 1 ≤ op ∧ op ≤ 22) : (opw op).size + 1 ≤ 22 := by
 have := (by decide : ∀ k : Fin 23, (wordsL.getD k.val []).length ≤ 6) ⟨op.toNat, by omega⟩
 simp only at this
 unfold opw
 rw [size_mk]
 omega
theorem szL_le {c : Nat} : ∀ {l : Ln}, (∀ y ∈ l, y.size + 1 ≤ c) → szL (unW l) ≤ l.length * c
 | [], _ => by simp [szL]
 | y :: l, h => by
  have h1 := h y (by simp)
  have h2 := szL_le (l := l) (fun z hz => h z (by simp [hz]))
  have h3 : szL (unW (y :: l)) = (y.size + 1) + szL (unW l) := by
   show szL (un y :: unW l) = _
   simp [szL]
  rw [h3, List.length_cons, Nat.add_mul]
  omega
structure LB (l : Ln) (n c : Nat) : Prop where
 len : l.length ≤ n
 sz : szL (unW l) ≤ c
 each : ∀ y ∈ l, y.size ≤ 1000000
theorem LB.append {a b : Ln} {n m c d : Nat} (h : LB a n c) (k : LB b m d) : LB (a ++ b) (n + m) (c + d) :=
 ⟨by rw [List.length_append]; have := h.len; have := k.len; omega, by
  have e : unW (a ++ b) = unW a ++ unW b := by simp [unW]
  rw [e, szL_append]; have := h.sz; have := k.sz; omega, fun y hy => by
  rcases List.mem_append.1 hy with hy | hy
  ·exact h.each y hy
  ·exact k.each y hy⟩
theorem LB.all {l : Ln} {n c : Nat} (hl : l.length ≤ n) (h : ∀ y ∈ l, y.size + 1 ≤ c) (hc : c ≤ 1000) : LB l n (n * c) :=
 ⟨hl, Nat.le_trans (szL_le h) (Nat.mul_le_mul_right c hl), fun y hy => by have := h y hy; omega⟩
theorem LB.up {l : Ln} {n c m d : Nat} (h : LB l n c) (h1 : n ≤ m) (h2 : c ≤ d) : LB l m d := ⟨Nat.le_trans h.len h1, Nat.le_trans h.sz h2, h.each⟩
theorem mem_two {α : Type} {p : α → Prop} {l m : List α} (h : ∀ x ∈ l, p x) (k : ∀ x ∈ m, p x) : ∀ x ∈ l ++ m, p x := fun x hx => by
 rcases List.mem_append.1 hx with hx | hx
 ·exact h x hx
 ·exact k x hx
theorem mem_cons {α : Type} {p : α → Prop} {a : α} {l : List α} (h : p a) (k : ∀ x ∈ l, p x) : ∀ x ∈ a :: l, p x := fun x hx => by
 rcases List.mem_cons.1 hx with rfl | hx
 ·exact h
 ·exact k x hx
theorem mem_nil {α : Type} {p : α → Prop} : ∀ x ∈ ([] : List α), p x := fun x hx => by cases hx
theorem pair_small : ∀ l : List (Int × Int), (∀ p ∈ l, Nn p.1 ∧ Nn p.2) → ∀ y ∈ pairW l, y.size + 1 ≤ 5
 | [], _ => mem_nil
 | p :: l, h => by
  unfold pairW
  exact mem_cons (mkw_small (h p (by simp)).1) (mem_cons (mkw_small (h p (by simp)).2) (pair_small l fun q hq => h q (by simp [hq])))
theorem marks_small {c : UInt8} {l : List Int} (h : ∀ n ∈ l, Nn n) : ∀ y ∈ l.map (mkw c), y.size + 1 ≤ 5 := fun y hy => by
 obtain ⟨n, hn, rfl⟩ := List.mem_map.1 hy
 exact mkw_small (h n hn)
theorem word_size {l : List UInt8} (h : l.length ≤ 21) : (mk l).size + 1 ≤ 22 := by rw [size_mk]; omega
theorem insW_B {x : Ix} (h : IOk x) (hl : x.args.length ≤ 40) {reg : Int} (hr : I64 reg) : LB (insW x reg) 100 554 := by
 unfold insW hasW
 have h1 : LB (if answersB x.op = true then [mkw 114 reg, mkw 116 x.typ, mk [61]] else []) 3 (3 * 22) := by
  split
  ·exact LB.all (by simp) (mem_cons (mkw_size hr) (mem_cons (mkw_size (nn64 h.typ)) (mem_cons (word_size (by simp)) mem_nil))) (by decide)
  ·exact LB.all (by simp) mem_nil (by decide)
 have h2 : LB (abW x.op x.a x.b) 2 (2 * 22) := by
  unfold abW
  refine LB.all ?_ (mem_two ?_ ?_) (by decide)
  ·(repeat' split) <;> simp
  ·split
   ·exact mem_cons (mkw_size (nn64 h.a)) mem_nil
   ·exact mem_nil
  ·split
   ·exact mem_cons (mkw_size (nn64 h.b)) mem_nil
   ·exact mem_nil
 have h3 : LB (numW x.op x.n) 1 (1 * 22) := by
  unfold numW
  refine LB.all ?_ ?_ (by decide)
  ·(repeat' split) <;> simp
  ·split
   ·exact mem_cons (nmw_size h.n) mem_nil
   ·split
    ·exact mem_cons (mkw_size h.n) mem_nil
    ·exact mem_nil
 have h4 : LB (argW x) 80 (80 * 5) := by
  unfold argW
  split
  ·exact LB.all (by rw [pairW_len, List.length_zip]; omega) (pair_small _ fun p hp => ⟨h.frm _ (List.of_mem_zip hp).1, h.args _ (List.of_mem_zip hp).2⟩) (by decide)
  ·exact LB.all (by rw [List.length_map]; omega) (marks_small h.args) (by decide)
 have h5 : LB [opw x.op] 1 (1 * 22) := LB.all (by simp) (mem_cons (opw_size h.op) mem_nil) (by decide)
 exact (h1.append (h5.append (h2.append (h3.append h4)))).up (by decide) (by decide)
theorem endW_B {x : Ex} (h1 : I64 x.a) (h2 : I64 x.to) (h3 : I64 x.els) : LB (endW x) 100 88 := by
 unfold endW
 have hw : ∀ l : List UInt8, l.length ≤ 21 → (mk l).size + 1 ≤ 22 := fun l h => word_size h
 split
 ·exact (LB.all (n := 4) (c := 22) (by simp) (mem_cons (hw _ (by simp)) (mem_cons (mkw_size h2) mem_nil)) (by decide)).up (by decide) (by decide)
 split
 ·exact (LB.all (n := 4) (c := 22) (by simp) (mem_cons (hw _ (by simp)) (mem_cons (mkw_size h1) (mem_cons (mkw_size h2) (mem_cons (mkw_size h3) mem_nil)))) (by decide)).up (by decide) (by decide)
 ·exact (LB.all (n := 4) (c := 22) (by simp) (mem_cons (hw _ (by simp)) (mem_cons (mkw_size h1) mem_nil)) (by decide)).up (by decide) (by decide)
theorem tyW_B {t : Ty} (h : TOk t) (hp : t.parts.length ≤ 1000) : LB (tyW t) 5000 5100 := by
 have hw : ∀ l : List UInt8, l.length ≤ 21 → (mk l).size + 1 ≤ 22 := fun l h => word_size h
 have h0 := hw [116, 121, 112, 101] (by simp)
 obtain ⟨h1, h2, h3⟩ := ty_64 h
 have hn : ∀ n ∈ t.parts, Nn n := by
  rcases h with ⟨_, _, _, e⟩ | ⟨_, _, _, e⟩ | ⟨_, _, _, e⟩ | ⟨_, _, _, e⟩ | ⟨_, _, _, e⟩
  ·rw [e]; exact mem_nil
  ·rw [e]; exact mem_nil
  ·exact e
  ·exact e
  ·rw [e]; exact mem_nil
 have hm : LB (t.parts.map (mkw 116)) 1000 (1000 * 5) := LB.all (by rw [List.length_map]; exact hp) (marks_small hn) (by decide)
 unfold tyW kindW
 split
 ·exact (LB.all (n := 4) (c := 22) (by simp) (mem_cons h0 (mem_cons (hw _ (by simp)) (mem_cons (mkw_size h1) mem_nil))) (by decide)).up (by decide) (by decide)
 split
 ·exact ((LB.all (l := [mk [116, 121, 112, 101], mk [102, 110], mkw 116 t.elem]) (n := 3) (c := 22) (by simp) (mem_cons h0 (mem_cons (hw _ (by simp)) (mem_cons (mkw_size h1) mem_nil))) (by decide)).append hm).up (by decide) (by decide)
 split
 ·exact ((LB.all (l := [mk [116, 121, 112, 101], mk [115, 116, 114, 117, 99, 116]]) (n := 3) (c := 22) (by simp) (mem_cons h0 (mem_cons (hw _ (by simp)) mem_nil)) (by decide)).append hm).up (by decide) (by decide)
 split
 ·exact (LB.all (n := 4) (c := 22) (by simp) (mem_cons h0 (mem_cons (hw _ (by simp)) (mem_cons (mkw_size h1) (mem_cons (nmw_size h2) mem_nil)))) (by decide)).up (by decide) (by decide)
 ·exact (LB.all (n := 4) (c := 22) (by simp) (mem_cons h0 (mem_cons (hw _ (by simp)) mem_nil)) (by decide)).up (by decide) (by decide)
structure TB (L : List Ln) (n c : Nat) : Prop where
 len : L.length ≤ n
 sz : szT (unL L) ≤ c
 all : ∀ l ∈ L, l.length ≤ 10000 ∧ ∀ y ∈ l, y.size ≤ 1000000
theorem TB.nil : TB [] 0 0 := ⟨Nat.le_refl _, Nat.le_refl _, mem_nil⟩
theorem TB.one {l : Ln} {n c : Nat} (h : LB l n c) (hn : n ≤ 10000) : TB [l] 1 c := ⟨Nat.le_refl _, by show szT [unW l] ≤ c; rw [szT_one]; exact h.sz, mem_cons ⟨Nat.le_trans h.len hn, h.each⟩ mem_nil⟩
theorem TB.append {a b : List Ln} {n m c d : Nat} (h : TB a n c) (k : TB b m d) : TB (a ++ b) (n + m) (c + d) :=
 ⟨by rw [List.length_append]; have := h.len; have := k.len; omega, by
  have e : unL (a ++ b) = unL a ++ unL b := by simp [unL]
  rw [e, szT_append]; have := h.sz; have := k.sz; omega, mem_two h.all k.all⟩
theorem TB.up {a : List Ln} {n c m d : Nat} (h : TB a n c) (h1 : n ≤ m) (h2 : c ≤ d) : TB a m d := ⟨Nat.le_trans h.len h1, Nat.le_trans h.sz h2, h.all⟩
theorem types_B : ∀ l : List Ty, (∀ t ∈ l, TOk t ∧ t.parts.length ≤ 1000) → TB (l.map tyW) l.length (l.length * 5100)
 | [], _ => TB.nil.up (Nat.zero_le _) (Nat.zero_le _)
 | t :: l, h => ((TB.one (tyW_B (h t (by simp)).1 (h t (by simp)).2) (by decide)).append (types_B l fun x hx => h x (by simp [hx]))).up (by rw [List.length_cons]; omega) (by rw [List.length_cons, Nat.add_mul]; omega)
theorem insWs_B : ∀ (l : List Ix) (r : Int), (∀ x ∈ l, IOk x ∧ x.args.length ≤ 40) → 0 ≤ r → r + l.length ≤ 100000 → TB (insWs l r) l.length (l.length * 554)
 | [], _, _, _, _ => TB.nil.up (Nat.zero_le _) (Nat.zero_le _)
 | x :: l, r, h, h0, h1 => by
  rw [List.length_cons] at h1
  exact ((TB.one (insW_B (h x (by simp)).1 (h x (by simp)).2 (reg := r) (by unfold I64; omega)) (by decide)).append (insWs_B l (r + 1) (fun y hy => h y (by simp [hy])) (by omega) (by omega))).up (by rw [List.length_cons]; omega) (by rw [List.length_cons, Nat.add_mul]; omega)
theorem blocksW_B : ∀ (bs : List Bx) (r : Int), (∀ b ∈ bs, (∀ x ∈ b.ins, IOk x ∧ x.args.length ≤ 40) ∧ I64 b.en.a ∧ I64 b.en.to ∧ I64 b.en.els) → 0 ≤ r → r + insN bs ≤ 100000 → TB (blocksW bs r) (2 * bs.length + insN bs) (2 * bs.length * 88 + insN bs * 554)
 | [], _, _, _, _ => TB.nil.up (Nat.zero_le _) (Nat.zero_le _)
 | b :: bs, r, h, h0, h1 => by
  have hi : insN (b :: bs) = b.ins.length + insN bs := by simp [insN]
  rw [hi] at h1 ⊢
  have hb := h b (by simp)
  have k1 : TB [blW] 1 88 := TB.one ((LB.all (l := blW) (n := 1) (c := 22) (by decide) (by decide) (by decide)).up (m := 100) (by decide) (d := 88) (by decide)) (by decide)
  have k2 := insWs_B b.ins r hb.1 h0 (by omega)
  have k3 := TB.one (endW_B hb.2.1 hb.2.2.1 hb.2.2.2) (by decide)
  have k4 := blocksW_B bs (r + b.ins.length) (fun c hc => h c (by simp [hc])) (by omega) (by omega)
  have k := (k1.append (k2.append (k3.append k4)))
  exact k.up (by rw [List.length_cons]; omega) (by rw [List.length_cons]; omega)
theorem funcsW_B (ts : List Ty) (ht : ∀ t ∈ ts, t.parts.length ≤ 1000) : ∀ fs : List Fx, (∀ f ∈ fs, I64 f.sig ∧ f.blocks.length ≤ 16 ∧ insN f.blocks ≤ 128 ∧ (∀ b ∈ f.blocks, (∀ x ∈ b.ins, IOk x ∧ x.args.length ≤ 40) ∧ I64 b.en.a ∧ I64 b.en.to ∧ I64 b.en.els)) → TB (funcsW ts fs) (fs.length * 161) (fs.length * 73816)
 | [], _ => TB.nil.up (Nat.zero_le _) (Nat.zero_le _)
 | f :: fs, h => by
  obtain ⟨h1, h2, h3, h4⟩ := h f (by simp)
  have hr := reg_nn ts f.sig
  have hr2 : regOf ts f.sig ≤ 1000 := by
   unfold regOf
   split
   ·rename_i t e
    have := ht t (List.mem_of_getElem? e)
    omega
   ·omega
  have k1 : TB [fnW f.sig] 1 88 := TB.one ((LB.all (l := fnW f.sig) (n := 2) (c := 22) (by simp [fnW]) (mem_cons (word_size (by simp)) (mem_cons (mkw_size h1) mem_nil)) (by decide)).up (m := 100) (by decide) (d := 88) (by decide)) (by decide)
  have k2 := blocksW_B f.blocks (regOf ts f.sig) h4 hr (by omega)
  have k3 := funcsW_B ts ht fs (fun g hg => h g (by simp [hg]))
  exact (k1.append (k2.append k3)).up (by rw [List.length_cons]; omega) (by rw [List.length_cons]; omega)
/-- a program's lines are not too great to be joined -/
theorem prog_fits {p : Px} (hw : POkW p) (h : FineQ p) : Fits (progW p) := by
 have k1 := types_B p.types (fun t ht => ⟨hw.1 t ht, h.parts t ht⟩)
 have k2 := funcsW_B p.types h.parts p.funcs (fun f hf => ⟨nn64 (hw.2 f hf).1, (h.blocks f hf).1, (h.blocks f hf).2, fun b hb => ⟨h.ins f hf b hb, h.en f hf b hb⟩⟩)
 have k := k1.append k2
 have h1 := h.types
 have h2 := h.funcs
 refine ⟨?_, fun l hl => (k.all l hl).1, fun l hl => (k.all l hl).2, ?_⟩
 ·have := k.len; unfold progW; omega
 ·have := k.sz; unfold progW; omega
end Go.Proofs.YtbebficgcemkoaaGreatDoor.WkB
namespace Go.Proofs.YtbebficgcemkoaaGreatDoor.WkW
open Go.RowKit Go.Lib TyM TyP ShM ShP ShI LxM LxP LxK LxJ LxN RdM RdN RdV NumP WrM WrI WrP WrC WrT WkJ WkF WkB Aft

/-- a program's text, or the error -/
def TextR (o : Int × List UInt8) (w : World) (e : Ending) (w' : World) : Prop := e = .returned (.tuple #[.string (mk o.2), .int .i64 o.1]) ∧ Below w.heap.size w w'

set_option maxRecDepth 100000 in
set_option maxHeartbeats 8000000 in
theorem write_calls (p : Px) (v : Value) (w : World) (hp : PrAt w v p) (hs : ShP.Small p) (hok : POk p) (hn : N64 p) (hk : LxK.Tab w) (htab : ShA.Tab w) (ht : NumL.Tab w) (ho : TabW w) :
  Calls Tryz.prog 9 #[v] w (TextR (writeO p) w) := by
 have hp0 := hp
 obtain ⟨vt, vf, rfl, htys, hfns⟩ := hp
 obtain ⟨w1, hw1⟩ : ∃ X, X = w.alloc (.cells #[vt, vf] 28) := ⟨_, rfl⟩
 have k0 : w1.heap[w.heap.size]? = some (.cells #[vt, vf] 28 (0, 0)) := by rw [hw1]; exact heap_alloc_new _ _
 have hb1 : Below w.heap.size w w1 := by rw [hw1]; exact LxP.alloc_below _ _
 have HCK := hid (ShI.check_calls p _ w1 (hp0.below hb1) (htab.on hb1) hs hok)
 have HPR := hid (fun (hc : chkP p = 0) wx (hx : Aft w1 wx) => WkP.program_calls p _ wx (hp0.below (hb1.trans (Below.mono hx hb1.size))) (fine_of hc hok hn) (ht.on (hb1.trans (Below.mono hx hb1.size))) (htab.on (hb1.trans (Below.mono hx hb1.size))) (ho.on (hb1.trans (Below.mono hx hb1.size))))
 have HFT := hid (fun (hc : chkP p = 0) => prog_fits (prog_ok hc hok hn) (fine_of hc hok hn))
 have HJ := hid (fun u wx (hx : Aft w1 wx) (hl : LinesAt wx u (progW p)) (hf : Fits (progW p)) => LxT.joinC_calls u (progW p) wx hl hf (hk.on (hb1.trans (Below.mono hx hb1.size))))
 have HE : Hid (writeO p = if chkP p = 0 then (jnE (unL (progW p)), jnT (unL (progW p))) else (chkP p, [])) := rfl
 obtain ⟨ta, tc, rfl⟩ := htys.slice
 obtain ⟨fa, fc, rfl, hfl⟩ := RowAt.slice hfns
 have HW1 := hid hw1
 have HB1 := hid hb1
 have hr : Aft w1 w1 := Aft.refl w1
 have l0 := later (WkT.cell_at k0 0 _ rfl)
 have l1 := later (WkT.cell_at k0 1 _ rfl)
 simp only [List.getElem_toArray, List.getElem_cons_zero, List.getElem_cons_succ] at l0 l1
 clear hw1 hb1 k0 ht htab ho hk htys hfns hp0 hs hok hn
 generalize chkP p = ck at *
 generalize writeO p = wo at *
 go_enter Tryz.func9, Tryz.ntmps9
 go_wp2_with fail
 rw [← HW1.out]
 go_wp2_with fail
 refine HCK.out.mono ?_
 rintro e w2 ⟨rfl, hb2⟩
 have h2 := hr.go hb2
 clear HCK hb2
 by_cases hc : ck = 0
 ·have HE1 := hid (HE.out.trans (if_pos hc))
  have HPC := hid (HPR.out hc w2 h2)
  have HF := hid (HFT.out hc)
  clear HE HPR HFT
  go_wp2_with fail
  refine HPC.out.mono ?_
  rintro e w3 ⟨u, rfl, ⟨r, hol, hrl⟩, hb3⟩
  have h3 := h2.go hb3
  have hla : LinesAt w3 u (progW p) := by
   rw [← hrl]
   exact hol.lines (by have := HF.out.lines; rw [← hrl, List.length_map] at this; omega) (fun x hx => by have := HF.out.words x.1 (by rw [← hrl]; exact List.mem_map_of_mem hx); omega)
  have HJC := hid (HJ.out u w3 h3 hla HF.out)
  clear HPC HJ HF hol hrl hla hb3
  go_wp2_with fail
  refine HJC.out.mono ?_
  rintro e w4 ⟨rfl, hb4⟩
  have HB := hid (HB1.out.trans (Below.mono (h3.go hb4) HB1.out.size))
  clear HJC hb4
  generalize jnT (unL (progW p)) = jt at *
  generalize jnE (unL (progW p)) = je at *
  go_wp2
  go_ret2
  rw [HE1.out]
  exact ⟨rfl, HB.out⟩
 ·have HE1 := hid (HE.out.trans (if_neg hc))
  have HB := hid (HB1.out.trans (Below.mono h2 HB1.out.size))
  clear HE HPR HFT HJ
  go_wp2
  go_ret2
  rw [HE1.out]
  exact ⟨rfl, HB.out⟩

end Go.Proofs.YtbebficgcemkoaaGreatDoor.WkW
namespace Go.Proofs.YtbebficgcemkoaaGreatDoor.WvK
open Go.RowKit Go.Lib IntO SetP TyM TyP ShM ShP LxM LxP LxJ RwO RgZ NumP WrM WrI WrP WkM WkF WkT WvM Aft

set_option maxRecDepth 100000 in
set_option maxHeartbeats 8000000 in
theorem end_calls (x : Ex) (w : World) (h1 : I64 x.a) (h2 : I64 x.to) (h3 : I64 x.els) :
  Calls Tryz.prog 54 #[exV x] w (LineR (endW x) w) := by
 have HM1 := hid (fun c wx => mark_calls c x.a h1 wx)
 have HM2 := hid (fun c wx => mark_calls c x.to h2 wx)
 have HM3 := hid (fun c wx => mark_calls c x.els h3 wx)
 have HE : Hid (endW x = if x.kind = 1 then [mk [106, 117, 109, 112], mkw 98 x.to] else if x.kind = 2 then [mk [98, 114, 97, 110, 99, 104], mkw 114 x.a, mkw 98 x.to, mkw 98 x.els] else [mk [114, 101, 116, 117, 114, 110], mkw 114 x.a]) := rfl
 clear h1 h2 h3
 obtain ⟨w1, hw1⟩ : ∃ X, X = w.alloc (.cells #[.int .u8 x.kind, .int .i64 x.a, .int .i64 x.to, .int .i64 x.els] 52) := ⟨_, rfl⟩
 have k0 : w1.heap[w.heap.size]? = some (.cells #[.int .u8 x.kind, .int .i64 x.a, .int .i64 x.to, .int .i64 x.els] 52 (0, 0)) := by rw [hw1]; exact heap_alloc_new _ _
 have hb1 : Below w.heap.size w w1 := by rw [hw1]; exact LxP.alloc_below _ _
 have HW1 := hid hw1
 have HB1 := hid hb1
 have hr : Aft w1 w1 := Aft.refl w1
 have l0 := later (WkT.cell_at k0 0 _ rfl)
 have l1 := later (WkT.cell_at k0 1 _ rfl)
 have l2 := later (WkT.cell_at k0 2 _ rfl)
 have l3 := later (WkT.cell_at k0 3 _ rfl)
 simp only [List.getElem_toArray, List.getElem_cons_zero, List.getElem_cons_succ] at l0 l1 l2 l3
 clear hw1 hb1 k0
 go_enter Tryz.func54, Tryz.ntmps54
 by_cases q1 : x.kind = 1
 ·have HE1 := hid (HE.out.trans (if_pos q1))
  clear HE
  rw [q1] at l0 HW1
  have HC := hid (HM2.out 98 w1)
  rw [show (((98 : UInt8).toNat : Nat) : Int) = 98 from rfl] at HC
  go_wp2_with fail
  rw [← HW1.out]
  go_wp2_with fail
  refine HC.out.mono ?_
  rintro e w2 ⟨rfl, hb2⟩
  have HR : Hid (LineR (endW x) w (.returned (.slice (some ⟨w2.heap.size, 0, none⟩) 2 2)) (w2.alloc (.cells #[.string (mk [106, 117, 109, 112]), .string (mkw 98 x.to)] 9))) := by
   show LineR _ _ _ _
   rw [HE1.out]
   have h2 := HB1.out.trans (hb2.mono HB1.out.size)
   exact ⟨_, rfl, LxP.owns_base (LxP.ownsRow_lit w2 (strs [mk [106, 117, 109, 112], mkw 98 x.to]) 9 2 rfl (by decide)) h2.size, h2.alloc h2.size _⟩
  clear HC HM1 HM2 HM3 hb2 HE1
  generalize mkw 98 x.to = s2 at *
  go_wp2
  go_ret
  exact HR.out
 have HE0 := hid (HE.out.trans (if_neg q1))
 clear HE
 by_cases q2 : x.kind = 2
 ·have HE1 := hid (HE0.out.trans (if_pos q2))
  clear HE0
  rw [q2] at l0 HW1
  have HA := hid (HM1.out 114)
  have HB := hid (HM2.out 98)
  have HC := hid (HM3.out 98)
  rw [show (((114 : UInt8).toNat : Nat) : Int) = 114 from rfl] at HA
  rw [show (((98 : UInt8).toNat : Nat) : Int) = 98 from rfl] at HB HC
  have h0 := hr.drew
  clear HM1 HM2 HM3
  generalize hs1 : mkw 114 x.a = s1 at *
  generalize hs2 : mkw 98 x.to = s2 at *
  generalize hs3 : mkw 98 x.els = s3 at *
  clear hs1 hs2 hs3
  go_upto_region 4 with fail
  rw [← HW1.out]
  go_region_held3 (fun w' => Aft w1 w') (first | with_reducible exact Aft.alloc (((h0.go hba).go hbb).go hbc) _ | with_reducible exact Aft.alloc (((h0.go hba).go hbc).go hbb) _ | with_reducible exact Aft.alloc (((h0.go hbb).go hba).go hbc) _ | with_reducible exact Aft.alloc (((h0.go hbb).go hbc).go hba) _ | with_reducible exact Aft.alloc (((h0.go hbc).go hba).go hbb) _ | with_reducible exact Aft.alloc (((h0.go hbc).go hbb).go hba) _ | with_reducible exact (((h0.go hba).go hbb).go hbc) | with_reducible exact (((h0.go hba).go hbc).go hbb) | with_reducible exact (((h0.go hbb).go hba).go hbc) | with_reducible exact (((h0.go hbb).go hbc).go hba) | with_reducible exact (((h0.go hbc).go hba).go hbb) | with_reducible exact (((h0.go hbc).go hbb).go hba) | with_reducible exact ((h0.go hba).go hbb) | with_reducible exact ((h0.go hba).go hbc) | with_reducible exact ((h0.go hbb).go hba) | with_reducible exact ((h0.go hbb).go hbc) | with_reducible exact ((h0.go hbc).go hba) | with_reducible exact ((h0.go hbc).go hbb) | with_reducible exact (h0.go hba) | with_reducible exact (h0.go hbb) | with_reducible exact (h0.go hbc) | with_reducible exact h0) (first | (go_at_call 51; (with_reducible refine (HA.out _).mono ?_); rintro e wa ⟨rfl, hba⟩) | (go_at_call 51; (with_reducible refine (HB.out _).mono ?_); rintro e wb ⟨rfl, hbb⟩) | (go_at_call 51; (with_reducible refine (HC.out _).mono ?_); rintro e wc ⟨rfl, hbc⟩))
  have h3 := ((h0.go hba).go hbb).go hbc
  have HR : Hid (LineR (endW x) w (.returned (.slice (some ⟨wc.heap.size, 0, none⟩) 4 4)) (wc.alloc (.cells #[.string (mk [98, 114, 97, 110, 99, 104]), .string s1, .string s2, .string s3] 9))) := by
   show LineR _ _ _ _
   rw [HE1.out]
   have h2 := HB1.out.trans (Below.mono h3 HB1.out.size)
   exact ⟨_, rfl, LxP.owns_base (LxP.ownsRow_lit wc (strs [mk [98, 114, 97, 110, 99, 104], s1, s2, s3]) 9 4 rfl (by decide)) h2.size, h2.alloc h2.size _⟩
  clear HA HB HC h3 hba hbb hbc HE1
  go_wp2
  go_ret
  exact HR.out
 ·have HE1 := hid (HE0.out.trans (if_neg q2))
  clear HE0
  have HC := hid (HM1.out 114 w1)
  rw [show (((114 : UInt8).toNat : Nat) : Int) = 114 from rfl] at HC
  go_wp2_with fail
  rw [← HW1.out]
  go_wp2_with fail
  refine HC.out.mono ?_
  rintro e w2 ⟨rfl, hb2⟩
  have HR : Hid (LineR (endW x) w (.returned (.slice (some ⟨w2.heap.size, 0, none⟩) 2 2)) (w2.alloc (.cells #[.string (mk [114, 101, 116, 117, 114, 110]), .string (mkw 114 x.a)] 9))) := by
   show LineR _ _ _ _
   rw [HE1.out]
   have h2 := HB1.out.trans (hb2.mono HB1.out.size)
   exact ⟨_, rfl, LxP.owns_base (LxP.ownsRow_lit w2 (strs [mk [114, 101, 116, 117, 114, 110], mkw 114 x.a]) 9 2 rfl (by decide)) h2.size, h2.alloc h2.size _⟩
  clear HC HM1 HM2 HM3 hb2 HE1
  generalize mkw 114 x.a = s2 at *
  go_wp2
  go_ret
  exact HR.out

/-- words written out, in a new block -/
theorem line_new {w w2 : World} {ws : List ByteArray} {n : Nat} (h : Below w.heap.size w w2) (hn : ws.length = n) (h100 : n ≤ 100) : LineR ws w (.returned (.slice (some ⟨w2.heap.size, 0, none⟩) n n)) (w2.alloc (.cells (strs ws).toArray 9)) :=
 ⟨_, rfl, by subst hn; exact LxP.owns_base (LxP.ownsRow_lit w2 (strs ws) 9 ws.length (by simp [strs]) (by unfold maxLen; omega)) h.size, h.alloc h.size _⟩
set_option maxRecDepth 100000 in
set_option maxHeartbeats 8000000 in
theorem kind_calls (x : Ty) (pv : Value) (w : World) (hp : IntsAt w pv x.parts) (hl : x.parts.length ≤ 1000) (h1 : I64 x.elem) (h2 : I64 x.many) (h3 : ∀ n ∈ x.parts, I64 n) :
  Calls Tryz.prog 50 #[tyV x pv] w (LineR (tyW x) w) := by
 obtain ⟨pa, pc, rfl, _⟩ := TyP.ints_slice hp
 obtain ⟨w1, hw1⟩ : ∃ X, X = w.alloc (.cells #[.int .u8 x.kind, .int .i64 x.elem, .int .i64 x.many, .slice pa x.parts.length pc] 77) := ⟨_, rfl⟩
 have k0 : w1.heap[w.heap.size]? = some (.cells #[.int .u8 x.kind, .int .i64 x.elem, .int .i64 x.many, .slice pa x.parts.length pc] 77 (0, 0)) := by rw [hw1]; exact heap_alloc_new _ _
 have hb1 : Below w.heap.size w w1 := by rw [hw1]; exact LxP.alloc_below _ _
 have HM1 := hid (fun wx => mark_calls 116 x.elem h1 wx)
 rw [show (((116 : UInt8).toNat : Nat) : Int) = 116 from rfl] at HM1
 have HMN := hid (fun wx => NumW.write_calls x.many h2 wx)
 have HMS := hid (fun (ws : List ByteArray) (hws : ws.length ≤ 100) v wx (hx : Aft w1 wx) (ho : wx.ownsRow w1.heap.size 9 1 v ws.length (strs ws)) => marks_calls v ws 116 (.slice pa x.parts.length pc) x.parts w1.heap.size wx ho hx.size (hp.below (hb1.trans (Below.mono hx hb1.size))) (fun wy hy _ => hp.below (hb1.trans (Below.mono (Below.trans hx hy) hb1.size))) h3 (by omega) (by omega))
 rw [show (((116 : UInt8).toNat : Nat) : Int) = 116 from rfl] at HMS
 have HE : Hid (tyW x = mk [116, 121, 112, 101] :: (if x.kind = 2 then [mk [112, 116, 114], mkw 116 x.elem] else if x.kind = 3 then mk [102, 110] :: mkw 116 x.elem :: x.parts.map (mkw 116) else if x.kind = 4 then mk [115, 116, 114, 117, 99, 116] :: x.parts.map (mkw 116) else if x.kind = 5 then [mk [97, 114, 114, 97, 121], mkw 116 x.elem, nmw x.many] else [mk [105, 110, 116]])) := rfl
 have HW1 := hid hw1
 have HB1 := hid hb1
 have hr : Aft w1 w1 := Aft.refl w1
 have l0 := later (WkT.cell_at k0 0 _ rfl)
 have l1 := later (WkT.cell_at k0 1 _ rfl)
 have l2 := later (WkT.cell_at k0 2 _ rfl)
 have l3 := later (WkT.cell_at k0 3 _ rfl)
 simp only [List.getElem_toArray, List.getElem_cons_zero, List.getElem_cons_succ] at l0 l1 l2 l3
 clear hw1 hb1 k0 hp hl h1 h2 h3
 go_enter Tryz.func50, Tryz.ntmps50
 by_cases q2 : x.kind = 2
 ·have HE1 := hid (HE.out.trans (congrArg _ (if_pos q2)))
  rw [q2] at l0 HW1
  clear HE HMN HMS
  go_wp2_with fail
  rw [← HW1.out]
  go_wp2_with fail
  refine (HM1.out w1).mono ?_
  rintro e w2 ⟨rfl, hb2⟩
  have HR : Hid (LineR (tyW x) w (.returned (.slice (some ⟨w2.heap.size, 0, none⟩) 3 3)) (w2.alloc (.cells #[.string (mk [116, 121, 112, 101]), .string (mk [112, 116, 114]), .string (mkw 116 x.elem)] 9))) := by
   show LineR _ _ _ _
   rw [HE1.out]
   exact line_new (ws := [mk [116, 121, 112, 101], mk [112, 116, 114], mkw 116 x.elem]) (n := 3) (HB1.out.trans (hb2.mono HB1.out.size)) rfl (by decide)
  clear HM1 hb2
  generalize mkw 116 x.elem = s1 at *
  go_wp2
  go_ret
  exact HR.out
 have HE2 := hid (HE.out.trans (congrArg _ (if_neg q2)))
 clear HE
 by_cases q3 : x.kind = 3
 ·have HE1 := hid (HE2.out.trans (congrArg _ (if_pos q3)))
  rw [q3] at l0 HW1
  clear HE2 HMN
  have h0 := hr.drew
  go_upto_region 5 with fail
  rw [← HW1.out]
  refine wp_region_noPanic ?_
  refine wp_region_Z (S := (fun w' => Aft w1 w')) (Z := []) (by kernel_rfl) ?_ (fun hHeld => ?_)
  ·exact h0
  refine zP 0 rfl ?_
  refine zT 1 rfl ?_
  refine zP 4 rfl ?_
  refine zT 5 rfl ?_
  refine zC 2 rfl (fun K hK => ?_)
  go_simp
  (go_at_call 51; (with_reducible refine (HM1.out _).mono ?_); rintro e w2 ⟨rfl, hb2⟩)
  have h2 := h0.go hb2
  refine hK.out _ _ ?_ (fun hHeld => ?_)
  ·exact h2
  clear hK K
  refine zC 3 rfl (fun K hK => ?_)
  go_simp
  have h3 := h2.alloc (.cells #[.string (mk [116, 121, 112, 101]), .string (mk [102, 110]), .string (mkw 116 x.elem)] 9)
  refine hK.out _ _ ?_ (fun hHeld => ?_)
  ·exact h3
  clear hK K
  have HC := hid (HMS.out [mk [116, 121, 112, 101], mk [102, 110], mkw 116 x.elem] (by simp) (.slice (some ⟨w2.heap.size, 0, none⟩) 3 3) _ h3 (LxP.owns_base (LxP.ownsRow_lit w2 (strs [mk [116, 121, 112, 101], mk [102, 110], mkw 116 x.elem]) 9 3 rfl (by decide)) h2.size))
  refine zC 6 rfl (fun K hK => ?_)
  go_simp
  (go_at_call 104; refine HC.out.mono ?_; rintro e w4 hm)
  obtain ⟨u, rfl, ho, hb4⟩ := hm
  have h4 := Below.trans h3 hb4
  have HR : Hid (LineR (tyW x) w (.returned u) w4) := by
   show LineR _ _ _ _
   rw [HE1.out]
   exact ⟨u, rfl, LxP.owns_base ho HB1.out.size, HB1.out.trans (h4.mono HB1.out.size)⟩
  refine hK.out _ _ ?_ (fun hHeld => ?_)
  ·exact h4
  clear hK K HM1 HMS HC hb2 ho hb4
  refine zP 7 rfl ?_
  refine wpAnyZ_done (by kernel_rfl) ?_ _
  refine NoPanic.normal ?_
  go_wp2
  go_ret
  exact HR.out
 have HE3 := hid (HE2.out.trans (congrArg _ (if_neg q3)))
 clear HE2
 by_cases q4 : x.kind = 4
 ·have HE1 := hid (HE3.out.trans (congrArg _ (if_pos q4)))
  rw [q4] at l0 HW1
  clear HE3 HMN HM1
  have hwa := hr.alloc (.cells #[.string (mk [116, 121, 112, 101]), .string (mk [115, 116, 114, 117, 99, 116])] 9)
  have HC := hid (HMS.out [mk [116, 121, 112, 101], mk [115, 116, 114, 117, 99, 116]] (by simp) (.slice (some ⟨w1.heap.size, 0, none⟩) 2 2) _ hwa (LxP.ownsRow_lit w1 (strs [mk [116, 121, 112, 101], mk [115, 116, 114, 117, 99, 116]]) 9 2 rfl (by decide)))
  have hsz : w.heap.size + 1 = w1.heap.size := by rw [HW1.out, World.size_alloc]
  have HSZ := hid hsz
  clear hsz
  go_wp2_with fail
  rw [← HW1.out, HSZ.out]
  refine HC.out.mono ?_
  rintro e w4 hm
  obtain ⟨u, rfl, ho, hb4⟩ := hm
  have h4 := Below.trans hwa hb4
  have HR : Hid (LineR (tyW x) w (.returned u) w4) := by
   show LineR _ _ _ _
   rw [HE1.out]
   exact ⟨u, rfl, LxP.owns_base ho HB1.out.size, HB1.out.trans (h4.mono HB1.out.size)⟩
  clear HMS HC hwa ho hb4
  go_wp2
  go_ret
  exact HR.out
 have HE4 := hid (HE3.out.trans (congrArg _ (if_neg q4)))
 clear HE3 HMS
 by_cases q5 : x.kind = 5
 ·have HE1 := hid (HE4.out.trans (congrArg _ (if_pos q5)))
  rw [q5] at l0 HW1
  clear HE4
  have h0 := hr.drew
  have HNM : Hid (nmw x.many = ⟨(itoa x.many).toArray⟩) := rfl
  rw [← HNM.out] at HMN
  generalize hs1 : mkw 116 x.elem = s1 at *
  generalize hs2 : nmw x.many = s2 at *
  clear hs1 hs2 HNM
  go_upto_region 9 with fail
  rw [← HW1.out]
  go_region_held3 (fun w' => Aft w1 w') (first | with_reducible exact Aft.alloc ((h0.go hba).go hbb) _ | with_reducible exact ((h0.go hba).go hbb) | with_reducible exact Aft.alloc ((h0.go hbb).go hba) _ | with_reducible exact ((h0.go hbb).go hba) | with_reducible exact (h0.go hba) | with_reducible exact (h0.go hbb) | with_reducible exact h0) (first | (go_at_call 51; (with_reducible refine (HM1.out _).mono ?_); rintro e wa ⟨rfl, hba⟩) | (go_at_call 105; (with_reducible refine (HMN.out _).mono ?_); rintro e wb ⟨rfl, hbb⟩))
  have h3 := (h0.go hba).go hbb
  have HR : Hid (LineR (tyW x) w (.returned (.slice (some ⟨wb.heap.size, 0, none⟩) 4 4)) (wb.alloc (.cells #[.string (mk [116, 121, 112, 101]), .string (mk [97, 114, 114, 97, 121]), .string s1, .string s2] 9))) := by
   show LineR _ _ _ _
   rw [HE1.out]
   exact line_new (ws := [mk [116, 121, 112, 101], mk [97, 114, 114, 97, 121], s1, s2]) (n := 4) (HB1.out.trans (Below.mono h3 HB1.out.size)) rfl (by decide)
  clear HM1 HMN hba hbb h3 HE1
  go_wp2
  go_ret
  exact HR.out
 have HE1 := hid (HE4.out.trans (congrArg _ (if_neg q5)))
 clear HE4 HM1 HMN
 have HR : Hid (LineR (tyW x) w (.returned (.slice (some ⟨w1.heap.size, 0, none⟩) 2 2)) (w1.alloc (.cells #[.string (mk [116, 121, 112, 101]), .string (mk [105, 110, 116])] 9))) := by
  show LineR _ _ _ _
  rw [HE1.out]
  exact line_new (ws := [mk [116, 121, 112, 101], mk [105, 110, 116]]) (n := 2) HB1.out rfl (by decide)
 go_wp2_with fail
 rw [← HW1.out]
 have hsz : w.heap.size + 1 = w1.heap.size := by rw [HW1.out, World.size_alloc]
 rw [← hsz] at HR
 go_wp2
 go_ret
 exact HR.out
end Go.Proofs.YtbebficgcemkoaaGreatDoor.WvK
