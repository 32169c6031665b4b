/- A program's own lines are not too great to be joined. Walks over write.Write and write.Canon. Walks over the statements' own is and alive; the chapter's examples. -/
import Derived.Test.YtbebficgcemkoaaGreatDoorZWkP
import Derived.Test.YtbebficgcemkoaaGreatDoorZLxSpToLxT
import Derived.Test.YtbebficgcemkoaaGreatDoorZRcYToWrT
namespace Go.Proofs.YtbebficgcemkoaaGreatDoor.WkB
open Go.RowKit Go.Lib TyM ShM ShP LxM LxP LxK LxJ LxN RdM RdN RdV NumP WrM WrI WrP WkJ WkF

theorem size_mk (l : List UInt8) : (mk l).size = l.length := by simp [mk, ByteArray.size]
theorem itoa_small : ∀ k : Fin 1000, (itoa (k.val : Int)).length ≤ 3 := by decide +kernel
theorem mkw_small {c : UInt8} {n : Int} (h : Nn n) : (mkw c n).size + 1 ≤ 5 := by
  obtain ⟨h1, h2⟩ := h
  have := itoa_small ⟨n.toNat, by omega⟩
  simp only at this
  rw [Int.toNat_of_nonneg h1] at this
  unfold mkw
  rw [size_mk, List.length_cons]
  omega
theorem mkw_size {c : UInt8} {n : Int} (h : I64 n) : (mkw c n).size + 1 ≤ 22 := by
  have := (itoa_length n h).2
  unfold mkw
  rw [size_mk, List.length_cons]
  omega
theorem nmw_size {n : Int} (h : I64 n) : (nmw n).size + 1 ≤ 22 := by
  have := (itoa_length n h).2
  unfold nmw
  rw [size_mk]
  omega
theorem opw_size {op : Int} (h : 1 ≤ op ∧ op ≤ 22) : (opw op).size + 1 ≤ 22 := by
  have := (by decide : ∀ k : Fin 23, (wordsL.getD k.val []).length ≤ 6) ⟨op.toNat, by omega⟩
  simp only at this
  unfold opw
  rw [size_mk]
  omega
theorem szL_le {c : Nat} : ∀ {l : Ln}, (∀ y ∈ l, y.size + 1 ≤ c) → szL (unW l) ≤ l.length * c
  | [], _ => by simp [szL]
  | y :: l, h => by
    have h1 := h y (by simp)
    have h2 := szL_le (l := l) (fun z hz => h z (by simp [hz]))
    have h3 : szL (unW (y :: l)) = (y.size + 1) + szL (unW l) := by
      show szL (un y :: unW l) = _
      simp [szL]
    rw [h3, List.length_cons, Nat.add_mul]
    omega
structure LB (l : Ln) (n c : Nat) : Prop where
  len : l.length ≤ n
  sz : szL (unW l) ≤ c
  each : ∀ y ∈ l, y.size ≤ 1000000
theorem LB.append {a b : Ln} {n m c d : Nat} (h : LB a n c) (k : LB b m d) : LB (a ++ b) (n + m) (c + d) :=
  ⟨by rw [List.length_append]; have := h.len; have := k.len; omega, by
    have e : unW (a ++ b) = unW a ++ unW b := by simp [unW]
    rw [e, szL_append]; have := h.sz; have := k.sz; omega, fun y hy => by
    rcases List.mem_append.1 hy with hy | hy
    · exact h.each y hy
    · exact k.each y hy⟩
theorem LB.all {l : Ln} {n c : Nat} (hl : l.length ≤ n) (h : ∀ y ∈ l, y.size + 1 ≤ c) (hc : c ≤ 1000) : LB l n (n * c) :=
  ⟨hl, Nat.le_trans (szL_le h) (Nat.mul_le_mul_right c hl), fun y hy => by have := h y hy; omega⟩
theorem LB.up {l : Ln} {n c m d : Nat} (h : LB l n c) (h1 : n ≤ m) (h2 : c ≤ d) : LB l m d := ⟨Nat.le_trans h.len h1, Nat.le_trans h.sz h2, h.each⟩
theorem mem_two {α : Type} {p : α → Prop} {l m : List α} (h : ∀ x ∈ l, p x) (k : ∀ x ∈ m, p x) : ∀ x ∈ l ++ m, p x := fun x hx => by
  rcases List.mem_append.1 hx with hx | hx
  · exact h x hx
  · exact k x hx
theorem mem_cons {α : Type} {p : α → Prop} {a : α} {l : List α} (h : p a) (k : ∀ x ∈ l, p x) : ∀ x ∈ a :: l, p x := fun x hx => by
  rcases List.mem_cons.1 hx with rfl | hx
  · exact h
  · exact k x hx
theorem mem_nil {α : Type} {p : α → Prop} : ∀ x ∈ ([] : List α), p x := fun x hx => by cases hx
theorem pair_small : ∀ l : List (Int × Int), (∀ p ∈ l, Nn p.1 ∧ Nn p.2) → ∀ y ∈ pairW l, y.size + 1 ≤ 5
  | [], _ => mem_nil
  | p :: l, h => by
    unfold pairW
    exact mem_cons (mkw_small (h p (by simp)).1) (mem_cons (mkw_small (h p (by simp)).2) (pair_small l fun q hq => h q (by simp [hq])))
theorem marks_small {c : UInt8} {l : List Int} (h : ∀ n ∈ l, Nn n) : ∀ y ∈ l.map (mkw c), y.size + 1 ≤ 5 := fun y hy => by
  obtain ⟨n, hn, rfl⟩ := List.mem_map.1 hy
  exact mkw_small (h n hn)
theorem word_size {l : List UInt8} (h : l.length ≤ 21) : (mk l).size + 1 ≤ 22 := by rw [size_mk]; omega
theorem insW_B {x : Ix} (h : IOk x) (hl : x.args.length ≤ 40) {reg : Int} (hr : I64 reg) : LB (insW x reg) 100 554 := by
  unfold insW hasW
  have h1 : LB (if answersB x.op = true then [mkw 114 reg, mkw 116 x.typ, mk [61]] else []) 3 (3 * 22) := by
    split
    · exact LB.all (by simp) (mem_cons (mkw_size hr) (mem_cons (mkw_size (nn64 h.typ)) (mem_cons (word_size (by simp)) mem_nil))) (by decide)
    · exact LB.all (by simp) mem_nil (by decide)
  have h2 : LB (abW x.op x.a x.b) 2 (2 * 22) := by
    unfold abW
    refine LB.all ?_ (mem_two ?_ ?_) (by decide)
    · (repeat' split) <;> simp
    · split
      · exact mem_cons (mkw_size (nn64 h.a)) mem_nil
      · exact mem_nil
    · split
      · exact mem_cons (mkw_size (nn64 h.b)) mem_nil
      · exact mem_nil
  have h3 : LB (numW x.op x.n) 1 (1 * 22) := by
    unfold numW
    refine LB.all ?_ ?_ (by decide)
    · (repeat' split) <;> simp
    · split
      · exact mem_cons (nmw_size h.n) mem_nil
      · split
        · exact mem_cons (mkw_size h.n) mem_nil
        · exact mem_nil
  have h4 : LB (argW x) 80 (80 * 5) := by
    unfold argW
    split
    · exact LB.all (by rw [pairW_len, List.length_zip]; omega) (pair_small _ fun p hp => ⟨h.frm _ (List.of_mem_zip hp).1, h.args _ (List.of_mem_zip hp).2⟩) (by decide)
    · exact LB.all (by rw [List.length_map]; omega) (marks_small h.args) (by decide)
  have h5 : LB [opw x.op] 1 (1 * 22) := LB.all (by simp) (mem_cons (opw_size h.op) mem_nil) (by decide)
  exact (h1.append (h5.append (h2.append (h3.append h4)))).up (by decide) (by decide)
theorem endW_B {x : Ex} (h1 : I64 x.a) (h2 : I64 x.to) (h3 : I64 x.els) : LB (endW x) 100 88 := by
  unfold endW
  have hw : ∀ l : List UInt8, l.length ≤ 21 → (mk l).size + 1 ≤ 22 := fun l h => word_size h
  split
  · exact (LB.all (n := 4) (c := 22) (by simp) (mem_cons (hw _ (by simp)) (mem_cons (mkw_size h2) mem_nil)) (by decide)).up (by decide) (by decide)
  split
  · exact (LB.all (n := 4) (c := 22) (by simp) (mem_cons (hw _ (by simp)) (mem_cons (mkw_size h1) (mem_cons (mkw_size h2) (mem_cons (mkw_size h3) mem_nil)))) (by decide)).up (by decide) (by decide)
  · exact (LB.all (n := 4) (c := 22) (by simp) (mem_cons (hw _ (by simp)) (mem_cons (mkw_size h1) mem_nil)) (by decide)).up (by decide) (by decide)
theorem tyW_B {t : Ty} (h : TOk t) (hp : t.parts.length ≤ 1000) : LB (tyW t) 5000 5100 := by
  have hw : ∀ l : List UInt8, l.length ≤ 21 → (mk l).size + 1 ≤ 22 := fun l h => word_size h
  have h0 := hw [116, 121, 112, 101] (by simp)
  obtain ⟨h1, h2, h3⟩ := ty_64 h
  have hn : ∀ n ∈ t.parts, Nn n := by
    rcases h with ⟨_, _, _, e⟩ | ⟨_, _, _, e⟩ | ⟨_, _, _, e⟩ | ⟨_, _, _, e⟩ | ⟨_, _, _, e⟩
    · rw [e]; exact mem_nil
    · rw [e]; exact mem_nil
    · exact e
    · exact e
    · rw [e]; exact mem_nil
  have hm : LB (t.parts.map (mkw 116)) 1000 (1000 * 5) := LB.all (by rw [List.length_map]; exact hp) (marks_small hn) (by decide)
  unfold tyW kindW
  split
  · exact (LB.all (n := 4) (c := 22) (by simp) (mem_cons h0 (mem_cons (hw _ (by simp)) (mem_cons (mkw_size h1) mem_nil))) (by decide)).up (by decide) (by decide)
  split
  · exact ((LB.all (l := [mk [116, 121, 112, 101], mk [102, 110], mkw 116 t.elem]) (n := 3) (c := 22) (by simp) (mem_cons h0 (mem_cons (hw _ (by simp)) (mem_cons (mkw_size h1) mem_nil))) (by decide)).append hm).up (by decide) (by decide)
  split
  · exact ((LB.all (l := [mk [116, 121, 112, 101], mk [115, 116, 114, 117, 99, 116]]) (n := 3) (c := 22) (by simp) (mem_cons h0 (mem_cons (hw _ (by simp)) mem_nil)) (by decide)).append hm).up (by decide) (by decide)
  split
  · exact (LB.all (n := 4) (c := 22) (by simp) (mem_cons h0 (mem_cons (hw _ (by simp)) (mem_cons (mkw_size h1) (mem_cons (nmw_size h2) mem_nil)))) (by decide)).up (by decide) (by decide)
  · exact (LB.all (n := 4) (c := 22) (by simp) (mem_cons h0 (mem_cons (hw _ (by simp)) mem_nil)) (by decide)).up (by decide) (by decide)
structure TB (L : List Ln) (n c : Nat) : Prop where
  len : L.length ≤ n
  sz : szT (unL L) ≤ c
  all : ∀ l ∈ L, l.length ≤ 10000 ∧ ∀ y ∈ l, y.size ≤ 1000000
theorem TB.nil : TB [] 0 0 := ⟨Nat.le_refl _, Nat.le_refl _, mem_nil⟩
theorem TB.one {l : Ln} {n c : Nat} (h : LB l n c) (hn : n ≤ 10000) : TB [l] 1 c := ⟨Nat.le_refl _, by show szT [unW l] ≤ c; rw [szT_one]; exact h.sz, mem_cons ⟨Nat.le_trans h.len hn, h.each⟩ mem_nil⟩
theorem TB.append {a b : List Ln} {n m c d : Nat} (h : TB a n c) (k : TB b m d) : TB (a ++ b) (n + m) (c + d) :=
  ⟨by rw [List.length_append]; have := h.len; have := k.len; omega, by
    have e : unL (a ++ b) = unL a ++ unL b := by simp [unL]
    rw [e, szT_append]; have := h.sz; have := k.sz; omega, mem_two h.all k.all⟩
theorem TB.up {a : List Ln} {n c m d : Nat} (h : TB a n c) (h1 : n ≤ m) (h2 : c ≤ d) : TB a m d := ⟨Nat.le_trans h.len h1, Nat.le_trans h.sz h2, h.all⟩
theorem types_B : ∀ l : List Ty, (∀ t ∈ l, TOk t ∧ t.parts.length ≤ 1000) → TB (l.map tyW) l.length (l.length * 5100)
  | [], _ => TB.nil.up (Nat.zero_le _) (Nat.zero_le _)
  | t :: l, h => ((TB.one (tyW_B (h t (by simp)).1 (h t (by simp)).2) (by decide)).append (types_B l fun x hx => h x (by simp [hx]))).up (by rw [List.length_cons]; omega) (by rw [List.length_cons, Nat.add_mul]; omega)
theorem insWs_B : ∀ (l : List Ix) (r : Int), (∀ x ∈ l, IOk x ∧ x.args.length ≤ 40) → 0 ≤ r → r + l.length ≤ 100000 → TB (insWs l r) l.length (l.length * 554)
  | [], _, _, _, _ => TB.nil.up (Nat.zero_le _) (Nat.zero_le _)
  | x :: l, r, h, h0, h1 => by
    rw [List.length_cons] at h1
    exact ((TB.one (insW_B (h x (by simp)).1 (h x (by simp)).2 (reg := r) (by unfold I64; omega)) (by decide)).append (insWs_B l (r + 1) (fun y hy => h y (by simp [hy])) (by omega) (by omega))).up (by rw [List.length_cons]; omega) (by rw [List.length_cons, Nat.add_mul]; omega)
theorem blocksW_B : ∀ (bs : List Bx) (r : Int), (∀ b ∈ bs, (∀ x ∈ b.ins, IOk x ∧ x.args.length ≤ 40) ∧ I64 b.en.a ∧ I64 b.en.to ∧ I64 b.en.els) → 0 ≤ r → r + insN bs ≤ 100000 → TB (blocksW bs r) (2 * bs.length + insN bs) (2 * bs.length * 88 + insN bs * 554)
  | [], _, _, _, _ => TB.nil.up (Nat.zero_le _) (Nat.zero_le _)
  | b :: bs, r, h, h0, h1 => by
    have hi : insN (b :: bs) = b.ins.length + insN bs := by simp [insN]
    rw [hi] at h1 ⊢
    have hb := h b (by simp)
    have k1 : TB [blW] 1 88 := TB.one ((LB.all (l := blW) (n := 1) (c := 22) (by decide) (by decide) (by decide)).up (m := 100) (by decide) (d := 88) (by decide)) (by decide)
    have k2 := insWs_B b.ins r hb.1 h0 (by omega)
    have k3 := TB.one (endW_B hb.2.1 hb.2.2.1 hb.2.2.2) (by decide)
    have k4 := blocksW_B bs (r + b.ins.length) (fun c hc => h c (by simp [hc])) (by omega) (by omega)
    have k := (k1.append (k2.append (k3.append k4)))
    exact k.up (by rw [List.length_cons]; omega) (by rw [List.length_cons]; omega)
theorem funcsW_B (ts : List Ty) (ht : ∀ t ∈ ts, t.parts.length ≤ 1000) : ∀ fs : List Fx, (∀ f ∈ fs, I64 f.sig ∧ f.blocks.length ≤ 16 ∧ insN f.blocks ≤ 128 ∧ (∀ b ∈ f.blocks, (∀ x ∈ b.ins, IOk x ∧ x.args.length ≤ 40) ∧ I64 b.en.a ∧ I64 b.en.to ∧ I64 b.en.els)) → TB (funcsW ts fs) (fs.length * 161) (fs.length * 73816)
  | [], _ => TB.nil.up (Nat.zero_le _) (Nat.zero_le _)
  | f :: fs, h => by
    obtain ⟨h1, h2, h3, h4⟩ := h f (by simp)
    have hr := reg_nn ts f.sig
    have hr2 : regOf ts f.sig ≤ 1000 := by
      unfold regOf
      split
      · rename_i t e
        have := ht t (List.mem_of_getElem? e)
        omega
      · omega
    have k1 : TB [fnW f.sig] 1 88 := TB.one ((LB.all (l := fnW f.sig) (n := 2) (c := 22) (by simp [fnW]) (mem_cons (word_size (by simp)) (mem_cons (mkw_size h1) mem_nil)) (by decide)).up (m := 100) (by decide) (d := 88) (by decide)) (by decide)
    have k2 := blocksW_B f.blocks (regOf ts f.sig) h4 hr (by omega)
    have k3 := funcsW_B ts ht fs (fun g hg => h g (by simp [hg]))
    exact (k1.append (k2.append k3)).up (by rw [List.length_cons]; omega) (by rw [List.length_cons]; omega)
/-- a program's lines are not too great to be joined -/
theorem prog_fits {p : Px} (hw : POkW p) (h : FineQ p) : Fits (progW p) := by
  have k1 := types_B p.types (fun t ht => ⟨hw.1 t ht, h.parts t ht⟩)
  have k2 := funcsW_B p.types h.parts p.funcs (fun f hf => ⟨nn64 (hw.2 f hf).1, (h.blocks f hf).1, (h.blocks f hf).2, fun b hb => ⟨h.ins f hf b hb, h.en f hf b hb⟩⟩)
  have k := k1.append k2
  have h1 := h.types
  have h2 := h.funcs
  refine ⟨?_, fun l hl => (k.all l hl).1, fun l hl => (k.all l hl).2, ?_⟩
  · have := k.len; unfold progW; omega
  · have := k.sz; unfold progW; omega
end Go.Proofs.YtbebficgcemkoaaGreatDoor.WkB
namespace Go.Proofs.YtbebficgcemkoaaGreatDoor.WkW
open Go.RowKit Go.Lib TyM TyP ShM ShP ShI LxM LxP LxK LxJ LxN RdM RdN RdV RcO RcZ NumP WrM WrI WrP WrC WrT WkJ WkF WkB Aft

/-- a program's text, or the error -/
def TextR (o : Int × List UInt8) (w : World) (e : Ending) (w' : World) : Prop := e = .returned (.tuple #[.string (mk o.2), .int .i64 o.1]) ∧ Below w.heap.size w w'

set_option maxRecDepth 100000 in
set_option maxHeartbeats 8000000 in
theorem write_calls (p : Px) (v : Value) (w : World) (hp : PrAt w v p) (hs : ShP.Small p) (hok : POk p) (hn : N64 p) (hk : LxK.Tab w) (htab : ShA.Tab w) (ht : NumL.Tab w) (ho : TabW w) :
    Calls Tryz.prog 9 #[v] w (TextR (writeO p) w) := by
  have hp0 := hp
  obtain ⟨vt, vf, rfl, htys, hfns⟩ := hp
  obtain ⟨w1, hw1⟩ : ∃ X, X = w.alloc (.cells #[vt, vf] 28) := ⟨_, rfl⟩
  have k0 : w1.heap[w.heap.size]? = some (.cells #[vt, vf] 28 (0, 0)) := by rw [hw1]; exact heap_alloc_new _ _
  have hb1 : Below w.heap.size w w1 := by rw [hw1]; exact LxP.alloc_below _ _
  have HCK := hid (ShI.check_calls p _ w1 (hp0.below hb1) (htab.on hb1) hs hok)
  have HPR := hid (fun (hc : chkP p = 0) wx (hx : Aft w1 wx) => WkP.program_calls p _ wx (hp0.below (hb1.trans (Below.mono hx hb1.size))) (fine_of hc hok hn) (ht.on (hb1.trans (Below.mono hx hb1.size))) (htab.on (hb1.trans (Below.mono hx hb1.size))) (ho.on (hb1.trans (Below.mono hx hb1.size))))
  have HFT := hid (fun (hc : chkP p = 0) => prog_fits (prog_ok hc hok hn) (fine_of hc hok hn))
  have HJ := hid (fun u wx (hx : Aft w1 wx) (hl : LinesAt wx u (progW p)) (hf : Fits (progW p)) => LxT.joinC_calls u (progW p) wx hl hf (hk.on (hb1.trans (Below.mono hx hb1.size))))
  have HE : Hid (writeO p = if chkP p = 0 then (jnE (unL (progW p)), jnT (unL (progW p))) else (chkP p, [])) := rfl
  obtain ⟨ta, tc, rfl⟩ := htys.slice
  obtain ⟨fa, fc, rfl, hfl⟩ := RowAt.slice hfns
  have HW1 := hid hw1
  have HB1 := hid hb1
  have hr : Aft w1 w1 := Aft.refl w1
  have l0 := later (WkT.cell_at k0 0 _ rfl)
  have l1 := later (WkT.cell_at k0 1 _ rfl)
  simp only [List.getElem_toArray, List.getElem_cons_zero, List.getElem_cons_succ] at l0 l1
  clear hw1 hb1 k0 ht htab ho hk htys hfns hp0 hs hok hn
  generalize chkP p = ck at *
  generalize writeO p = wo at *
  go_enter Tryz.func9, Tryz.ntmps9
  go_wp2_with fail
  rw [← HW1.out]
  go_wp2_with fail
  refine HCK.out.mono ?_
  rintro e w2 ⟨rfl, hb2⟩
  have h2 := hr.go hb2
  clear HCK hb2
  by_cases hc : ck = 0
  · have HE1 := hid (HE.out.trans (if_pos hc))
    have HPC := hid (HPR.out hc w2 h2)
    have HF := hid (HFT.out hc)
    clear HE HPR HFT
    go_wp2_with fail
    refine HPC.out.mono ?_
    rintro e w3 ⟨u, rfl, ⟨r, hol, hrl⟩, hb3⟩
    have h3 := h2.go hb3
    have hla : LinesAt w3 u (progW p) := by
      rw [← hrl]
      exact hol.lines (by have := HF.out.lines; rw [← hrl, List.length_map] at this; omega) (fun x hx => by have := HF.out.words x.1 (by rw [← hrl]; exact List.mem_map_of_mem hx); omega)
    have HJC := hid (HJ.out u w3 h3 hla HF.out)
    clear HPC HJ HF hol hrl hla hb3
    go_wp2_with fail
    refine HJC.out.mono ?_
    rintro e w4 ⟨rfl, hb4⟩
    have HB := hid (HB1.out.trans (Below.mono (h3.go hb4) HB1.out.size))
    clear HJC hb4
    generalize jnT (unL (progW p)) = jt at *
    generalize jnE (unL (progW p)) = je at *
    go_wp2
    go_ret2
    rw [HE1.out]
    exact ⟨rfl, HB.out⟩
  · have HE1 := hid (HE.out.trans (if_neg hc))
    have HB := hid (HB1.out.trans (Below.mono h2 HB1.out.size))
    clear HE HPR HFT HJ
    go_wp2
    go_ret2
    rw [HE1.out]
    exact ⟨rfl, HB.out⟩

theorem read_small {s : List UInt8} (h : (readO s).1 = 0) : ShP.Small (readO s).2 ∧ POk (readO s).2 ∧ N64 (readO s).2 := by
  obtain ⟨h1, h2, h3⟩ := read_some h
  obtain ⟨h4, h5⟩ := RcY.prog_ok (RcY.fine_lines h1) h2
  exact ⟨h4, h5, (read_n64 h).1⟩
set_option maxRecDepth 100000 in
set_option maxHeartbeats 8000000 in
theorem canon_calls (s : ByteArray) (w : World) (hk : LxK.Tab w) (htab : ShA.Tab w) (hto : TabO w) (ht : NumL.Tab w) (ho : TabW w) :
    Calls Tryz.prog 10 #[.string s] w (TextR (canonO (un s)) w) := by
  have HRD := hid (read_calls s w hk htab hto)
  have HWR := hid (fun (h : (readO (un s)).1 = 0) v wx (hb : Below w.heap.size w wx) (hp : PrAt wx v (readO (un s)).2) => write_calls (readO (un s)).2 v wx hp (read_small h).1 (read_small h).2.1 (read_small h).2.2 (hk.on hb) (htab.on hb) (ht.on hb) (ho.on hb))
  have HE : Hid (canonO (un s) = if (readO (un s)).1 = 0 then writeO (readO (un s)).2 else ((readO (un s)).1, [])) := rfl
  unfold ReadO at HRD
  clear hk htab hto ht ho
  generalize canonO (un s) = co at *
  generalize readO (un s) = ro at *
  obtain ⟨re, rp⟩ := ro
  simp only at *
  generalize writeO rp = wo at *
  go_enter Tryz.func10, Tryz.ntmps10
  go_wp2_with fail
  refine HRD.out.mono ?_
  rintro e w2 ⟨v, rfl, hp, hb⟩
  obtain ⟨ta, tn, tc, fa, fn, fc, rfl⟩ := pr_agg hp
  have hb2 := hb.trans ((LxP.alloc_below w2 (.cells #[.slice ta tn tc, .slice fa fn fc] 28)).mono hb.size)
  have HB2 := hid hb2
  have hp2 := hp.below (LxP.alloc_below w2 (.cells #[.slice ta tn tc, .slice fa fn fc] 28))
  have HP2 := hid hp2
  clear hb hp hb2 hp2 HRD
  by_cases hc : re = 0
  · have HE1 := hid (HE.out.trans (if_pos hc))
    have HC := hid (HWR.out hc _ _ HB2.out HP2.out)
    clear HE HWR HP2
    go_wp2_with fail
    refine HC.out.mono ?_
    rintro e w3 ⟨rfl, hb3⟩
    have HB := hid (HB2.out.trans (hb3.mono HB2.out.size))
    clear HC hb3 HB2
    obtain ⟨a, b⟩ := wo
    simp only at *
    go_wp2
    go_ret2
    rw [HE1.out]
    exact ⟨rfl, HB.out⟩
  · have HE1 := hid (HE.out.trans (if_neg hc))
    clear HE HWR HP2
    go_wp2
    go_ret2
    rw [HE1.out]
    exact ⟨rfl, HB2.out⟩
end Go.Proofs.YtbebficgcemkoaaGreatDoor.WkW
namespace Go.Proofs.YtbebficgcemkoaaGreatDoor.WkN
open Go.RowKit Go.Lib TyM TyP TyB ShM ShP ShI LxM LxP LxK LxJ LxN RdM RdN RdV RcO RcZ NumP WrM WrI WrP WrC WrT WkJ WkF WkB WkW Aft

def noisy : ByteArray := { data := ([35, 32, 99, 10, 32, 116, 121, 112, 101, 32, 32, 105, 110, 116, 10, 116, 121, 112, 101, 32, 102, 110, 9, 116, 48, 13, 10, 102, 117, 110, 99, 32, 116, 49, 32, 35, 10, 98, 108, 111, 99, 107, 10, 114, 48, 32, 116, 48, 32].append [61, 32, 105, 110, 116, 32, 53, 10, 106, 117, 109, 112, 32, 98, 49, 10, 10, 98, 108, 111, 99, 107, 10, 114, 49, 32, 116, 48, 32, 61, 32, 97, 100, 100, 32, 114, 48, 32, 114, 48, 10, 114, 101, 116, 117, 114, 110, 32, 114, 49]).toArray }
def chap : ByteArray := { data := ([116, 121, 112, 101, 32, 105, 110, 116, 10, 116, 121, 112, 101, 32, 102, 110, 32, 116, 48, 10, 102, 117, 110, 99, 32, 116, 49, 10, 98, 108, 111, 99, 107, 10, 114, 48, 32, 116, 48, 32, 61, 32, 105, 110, 116].append [32, 53, 10, 106, 117, 109, 112, 32, 98, 49, 10, 98, 108, 111, 99, 107, 10, 114, 49, 32, 116, 48, 32, 61, 32, 97, 100, 100, 32, 114, 48, 32, 114, 48, 10, 114, 101, 116, 117, 114, 110, 32, 114, 49, 10]).toArray }
def allS : ByteArray := { data := ((([116, 121, 112, 101, 32, 105, 110, 116, 10, 116, 121, 112, 101, 32, 112, 116, 114, 32, 116, 50, 10, 116, 121, 112, 101, 32, 115, 116, 114, 117, 99, 116, 32, 116, 48, 32, 116, 49, 10, 116, 121, 112, 101].append [32, 97, 114, 114, 97, 121, 32, 116, 50, 32, 51, 10, 116, 121, 112, 101, 32, 102, 110, 32, 116, 48, 32, 116, 49, 32, 116, 48, 10, 102, 117, 110, 99, 32, 116, 52, 10, 98, 108, 111, 99, 107, 10, 115]).append ([116, 111, 114, 101, 32, 114, 48, 32, 114, 49, 10, 114, 51, 32, 116, 49, 32, 61, 32, 102, 105, 101, 108, 100, 32, 114, 48, 32, 49, 10, 114, 52, 32, 116, 48, 32, 61, 32, 99, 97, 108, 108, 32, 102].append [48, 32, 114, 48, 32, 114, 49, 10, 114, 53, 32, 116, 48, 32, 61, 32, 105, 99, 97, 108, 108, 32, 114, 48, 32, 114, 49, 10, 112, 114, 105, 110, 116, 32, 114, 49, 10, 102, 114, 101, 101, 32, 114, 48])).append (([10, 114, 56, 32, 116, 52, 32, 61, 32, 102, 110, 32, 102, 48, 10, 114, 57, 32, 116, 49, 32, 61, 32, 110, 117, 108, 108, 10, 114, 49, 48, 32, 116, 48, 32, 61, 32, 105, 110, 116, 32, 45, 53].append [10, 114, 49, 49, 32, 116, 49, 32, 61, 32, 110, 101, 119, 10, 114, 49, 50, 32, 116, 49, 32, 61, 32, 108, 111, 99, 97, 108, 10, 114, 49, 51, 32, 116, 48, 32, 61, 32, 114, 101, 97, 100, 10, 114]).append ([49, 52, 32, 116, 48, 32, 61, 32, 115, 97, 109, 101, 32, 114, 48, 32, 114, 48, 10, 114, 49, 53, 32, 116, 49, 32, 61, 32, 108, 111, 97, 100, 32, 114, 48, 10, 98, 114, 97, 110, 99, 104, 32, 114].append [49, 32, 98, 48, 32, 98, 49, 10, 98, 108, 111, 99, 107, 10, 114, 49, 54, 32, 116, 48, 32, 61, 32, 112, 104, 105, 32, 98, 48, 32, 114, 49, 10, 114, 101, 116, 117, 114, 110, 32, 114, 49, 54, 10]))).toArray }
theorem facts : canonO (un noisy) = (0, un chap) ∧ canonO (un chap) = (0, un chap) ∧ canonO (un allS) = (0, un allS) := by decide +kernel
theorem no_x : canonO [120] = (70, []) := by decide +kernel
theorem toList_self (s : ByteArray) : (s.toList == s.toList) = true := by simp
set_option maxHeartbeats 4000000 in
theorem is_yes (s want : ByteArray) (h : canonO (un s) = (0, un want)) (w : World) (hk : LxK.Tab w) (htab : ShA.Tab w) (hto : TabO w) (ht : NumL.Tab w) (ho : TabW w) :
    Calls Tryz.prog 12 #[.string s, .string want] w (BoolR true w) := by
  have HC := hid (canon_calls s w hk htab hto ht ho)
  rw [h] at HC
  unfold TextR at HC
  rw [show mk (un want) = want from rfl] at HC
  have hw := toList_self want
  clear h hk htab hto ht ho
  go_enter Tryz.func12, Tryz.ntmps12
  go_wp2_with fail
  refine HC.out.mono ?_
  rintro e w2 ⟨rfl, hb⟩
  go_wp2
  go_ret
  exact ⟨rfl, hb⟩
set_option maxRecDepth 100000 in
set_option maxHeartbeats 4000000 in
theorem alive_calls (w : World) (hk : LxK.Tab w) (htab : ShA.Tab w) (hto : TabO w) (ht : NumL.Tab w) (ho : TabW w) :
    Calls Tryz.prog 11 #[] w (BoolR true w) := by
  have HI := hid (is_yes noisy chap facts.1 w hk htab hto ht ho)
  unfold noisy chap at HI
  clear hk htab hto ht ho
  go_enter Tryz.func11, Tryz.ntmps11
  go_wp2_with fail
  refine HI.out.mono ?_
  rintro e w2 ⟨rfl, hb⟩
  go_wp2
  go_ret
  exact ⟨rfl, hb⟩
end Go.Proofs.YtbebficgcemkoaaGreatDoor.WkN
