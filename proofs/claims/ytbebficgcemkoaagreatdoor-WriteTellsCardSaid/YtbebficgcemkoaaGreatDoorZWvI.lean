/- Walk over fescueref08.ins. -/
import Derived.Test.YtbebficgcemkoaaGreatDoorZWkBToWvK
import Derived.Test.YtbebficgcemkoaaGreatDoorZWkJ
import Derived.Test.YtbebficgcemkoaaGreatDoorZShBToShU
import Derived.Test.YtbebficgcemkoaaGreatDoorZShV
import Derived.Test.YtbebficgcemkoaaGreatDoorZRdAToWkA
namespace Go.Proofs.YtbebficgcemkoaaGreatDoor.WvI
open Go.RowKit Go.Lib IntO SetP TyM TyP ShM ShP ShB LxM LxP LxJ RwO RgZ RdM NumP WrM WrI WrP WkM WkF WkL WkJ WvM WvK Aft

/-- words that grow -/
def RowW (w1 : World) (v : Value) (l : List ByteArray) (w : World) : Prop := w.ownsRow w1.heap.size 9 1 v l.length (strs l) ∧ Aft w1 w
theorem RowW.on {w1 w w' : World} {v : Value} {l : List ByteArray} (h : RowW w1 v l w) (hb : Below w.heap.size w w') : RowW w1 v l w' := ⟨LxP.ownsRow_below h.1 hb, h.2.go hb⟩
theorem RowW.more {w1 w w' : World} {v v' : Value} {l m : List ByteArray} {n : Nat} (h : RowW w1 v l w) (ho : w'.ownsRow w1.heap.size 9 1 v' n (strs l ++ strs m)) (hn : n = l.length + m.length) (hg : w.grownBy w' v.ownBlock) : RowW w1 v' (l ++ m) w' := by
 subst hn
 refine ⟨?_, h.2.grown hg h.2.size (fun g hg => (h.1.lt g hg).1)⟩
 rw [List.length_append]
 simpa [strs] using ho
/-- words written out, appended -/
theorem wpList_append_words {ops : Array Oper} {rest : List Oper} {o : Oper} {a : Act} {w' : World} {Q : Exit → Act → World → Prop} (hgd : o.guard = none) (s x : Operand)
  (ho : o.op = .call { callee := .builtin .append, args := #[s, x], argTypes := #[74, 74] })
  {w1 : World} {u : Value} {L ws : List ByteArray} {n : Nat} (hS : RowW w1 u L w') (hs : a.eval s = u) (hx : a.eval x = .slice (some ⟨w'.heap.size, 0, none⟩) n n) (hw : ws.length = n) (h100 : n ≤ 100) (hn : L.length ≤ 100000)
  (h : ∀ v' w6, RowW w1 v' (L ++ ws) w6 → wpList Tryz.prog ops Q rest (a.put o.dst v') w6) : wpList Tryz.prog ops Q (o :: rest) a (w'.alloc (.cells (strs ws).toArray 9)) := by
 subst hw
 have hb := LxP.alloc_below w' (.cells (strs ws).toArray 9)
 have h4 := hS.on hb
 have hl : ListAt (w'.alloc (.cells (strs ws).toArray 9)) (.slice (some ⟨w'.heap.size, 0, none⟩) ws.length ws.length) (strs ws) := by
  have := list_of_owns (LxP.ownsRow_lit w' (strs ws) 9 ws.length (by simp [strs]) (by unfold maxLen; omega)) (by simp [strs]; omega)
  exact this
 exact wpList_append_list hgd s x elemS ho w1.heap.size u hs L.length (strs L) h4.1 (by omega) _ _ hx hl (strs_one _) (by simp [strs]; omega) (by have := hS.2.size; rw [World.size_alloc]; omega) fun v' w6 hown hg => h v' w6 (h4.more hown (by simp [strs]) hg)
def ansW (x : Ix) (reg : Int) : List ByteArray := if answersB x.op = true then [mkw 114 reg, mkw 116 x.typ, mk [61]] else []
theorem numW_le (op n : Int) : (numW op n).length ≤ 1 := by unfold numW; (repeat' split) <;> simp
theorem pairW_append : ∀ a b : List (Int × Int), pairW (a ++ b) = pairW a ++ pairW b
 | [], _ => rfl
 | p :: a, b => by show _ :: _ :: pairW (a ++ b) = _; rw [pairW_append a b]; rfl
theorem ansW_len (x : Ix) (reg : Int) : (ansW x reg).length ≤ 3 := by unfold ansW; split <;> simp
theorem insW_ref (x : Ix) (reg : Int) : insW x reg = (ansW x reg ++ [opw x.op]) ++ ((abL x).map (mkw 114) ++ numW x.op x.n ++ argW x) := by
 unfold insW hasW ansW
 rw [← abL_words]
 simp
set_option maxRecDepth 100000 in
set_option maxHeartbeats 16000000 in
theorem ins_calls (x : Ix) (reg : Int) (va vf : Value) (w : World) (h0 : 1 ≤ x.op ∧ x.op ≤ 22) (ha : IntsAt w va x.args) (hf : IntsAt w vf x.frm) (hl : x.args.length ≤ 40) (hlf : x.op = 22 → x.frm.length = x.args.length)
  (i1 : ∀ n ∈ x.args, I64 n) (i2 : ∀ n ∈ x.frm, I64 n) (i3 : I64 x.typ) (i4 : I64 x.a) (i5 : I64 x.b) (i6 : I64 x.n) (i7 : I64 reg) :
  Calls Tryz.prog 52 #[ixV x va vf, .int .i64 reg] w (LineR (insW x reg) w) := by
 obtain ⟨aa, ac, rfl, _⟩ := TyP.ints_slice ha
 obtain ⟨fa, fc, rfl, _⟩ := TyP.ints_slice hf
 obtain ⟨w1, hw1⟩ : ∃ X, X = w.alloc (.cells #[.int .u8 x.op, .int .i64 x.typ, .int .i64 x.a, .int .i64 x.b, .int .i64 x.n, .slice aa x.args.length ac, .slice fa x.frm.length fc] 57) := ⟨_, rfl⟩
 have k0 : w1.heap[w.heap.size]? = some (.cells #[.int .u8 x.op, .int .i64 x.typ, .int .i64 x.a, .int .i64 x.b, .int .i64 x.n, .slice aa x.args.length ac, .slice fa x.frm.length fc] 57 (0, 0)) := by rw [hw1]; exact heap_alloc_new _ _
 have hb1 : Below w.heap.size w w1 := by rw [hw1]; exact LxP.alloc_below _ _
 obtain ⟨k, hk⟩ : ∃ k : Nat, x.op = (k : Int) := ⟨x.op.toNat, by omega⟩
 have HK := hid hk
 have HKR : Hid (1 ≤ k ∧ k ≤ 22) := by show 1 ≤ k ∧ k ≤ 22; omega
 have HCA := hid (fun wx => ShB.answersR_calls x.op (by omega) (by omega) wx)
 have HCW := hid (fun wx => RdO.word_calls k (by omega) wx)
 have hwd : RdO.wdOf k = opw x.op := by rw [hk]; rfl
 unfold RdO.WordR at HCW
 rw [hwd] at HCW
 have HCU := hid (fun wx => ShV.usesR_calls ⟨x.op, 0, x.a, x.b, 0, [], []⟩ (.slice none 0 0) (.slice none 0 0) wx (by simp only; omega) (by simp only; omega) ⟨none, 0, rfl, by simp, (fun h => by simp at h), (fun _ => rfl), by simp⟩ (by simp) ⟨_, _, _, rfl⟩)
 have HMR := hid (fun c n (hn : I64 n) wx => mark_calls c n hn wx)
 have HVA := hid ha
 have HVF := hid hf
 have HL := hid hl
 have HLF := hid hlf
 have HI := hid (And.intro i3 (And.intro i4 (And.intro i5 (And.intro i6 i7))))
 have HI1 := hid i1
 have HI2 := hid i2
 have HW1 := hid hw1
 have HB1 := hid hb1
 have hr : Aft w1 w1 := Aft.refl w1
 have l0 := later (WkT.cell_at k0 0 _ rfl)
 have l1 := later (WkT.cell_at k0 1 _ rfl)
 have l2 := later (WkT.cell_at k0 2 _ rfl)
 have l3 := later (WkT.cell_at k0 3 _ rfl)
 have l4 := later (WkT.cell_at k0 4 _ rfl)
 have l5 := later (WkT.cell_at k0 5 _ rfl)
 have l6 := later (WkT.cell_at k0 6 _ rfl)
 simp only [List.getElem_toArray, List.getElem_cons_zero, List.getElem_cons_succ] at l0 l1 l2 l3 l4 l5 l6
 have hix : ixV x (.slice aa x.args.length ac) (.slice fa x.frm.length fc) = .agg #[.int .u8 (k : Int), .int .i64 x.typ, .int .i64 x.a, .int .i64 x.b, .int .i64 x.n, .slice aa x.args.length ac, .slice fa x.frm.length fc] := by
  show Value.agg #[.int .u8 x.op, _, _, _, _, _, _] = _
  rw [hk]
 rw [hk] at l0 HCA HW1 HCU
 rw [hix]
 clear hw1 hb1 k0 ha hf hl hlf i1 i2 i3 i4 i5 i6 i7 h0 hk hix hwd
 go_enter Tryz.func52, Tryz.ntmps52
 go_wp2_with fail
 rw [← HW1.out]
 refine (HCA.out w1).mono ?_
 rintro e w2 ⟨rfl, rfl⟩
 clear HCA
 have HAB : Hid (ansW x reg = if answersB (k : Int) = true then [mkw 114 reg, mkw 116 x.typ, mk [61]] else []) := by rw [← HK.out]; exact rfl
 generalize answersB (k : Int) = ab at *
 go_upto_if 9 with fail
 go_cut [5] (fun v wc => RowW w1 v (ansW x reg) wc)
 case first =>
  cases ab with
  | false =>
   have HA : Hid (ansW x reg = []) := HAB.out
   clear HCU HCW HMR HAB
   go_wp2_with fail
   go_meet
   case rel => rw [HA.out]; exact ⟨World.ownsRow_nil _ _ _ _, hr⟩
  | true =>
   have HA : Hid (ansW x reg = [mkw 114 reg, mkw 116 x.typ, mk [61]]) := HAB.out
   have HA1 := hid (HMR.out 114 reg HI.out.2.2.2.2)
   have HA2 := hid (HMR.out 116 x.typ HI.out.1)
   rw [show (((114 : UInt8).toNat : Nat) : Int) = 114 from rfl] at HA1
   rw [show (((116 : UInt8).toNat : Nat) : Int) = 116 from rfl] at HA2
   clear HCU HCW HMR HAB
   generalize hs1 : mkw 114 reg = s1 at *
   generalize hs2 : mkw 116 x.typ = s2 at *
   clear hs1 hs2
   have hd := hr.drew
   go_upto_region 3 with fail
   refine wp_region_noPanic ?_
   refine wp_region_Z (S := (fun w' => Aft w1 w')) (Z := []) (by kernel_rfl) ?_ (fun hHeld => ?_)
   ·exact hd
   refine zP 0 rfl ?_
   refine zP 1 rfl ?_
   refine zP 3 rfl ?_
   refine zT 4 rfl ?_
   refine zC 2 rfl (fun K hK => ?_)
   go_simp
   (go_at_call 51; (with_reducible refine (HA1.out _).mono ?_); rintro e wx ⟨rfl, hbx⟩)
   have hx := hd.go hbx
   refine hK.out _ _ ?_ (fun hHeld => ?_)
   ·exact hx
   clear hK K
   refine zC 5 rfl (fun K hK => ?_)
   go_simp
   (go_at_call 51; (with_reducible refine (HA2.out _).mono ?_); rintro e wy ⟨rfl, hby⟩)
   have hy := hx.go hby
   refine hK.out _ _ ?_ (fun hHeld => ?_)
   ·exact hy
   clear hK K
   refine zC 6 rfl (fun K hK => ?_)
   go_simp
   refine hK.out _ _ ?_ (fun hHeld => ?_)
   ·exact hy.alloc _
   clear hK K
   refine zC 7 rfl (fun K hK => ?_)
   rw [if_pos (by rfl)]
   have HZ := hid (show RowW w1 (.slice none 0 0) [] (wy.alloc (.cells #[.string s1, .string s2, .string (mk [61])] 9)) from ⟨World.ownsRow_nil _ _ _ _, hy.alloc _⟩)
   refine wp_append_row strW (by decide) infoStr Tryz.underlying74 rfl (.tmp 10) (.tmp 16) rfl w1.heap.size (.slice none 0 0) rfl 0 [] (World.ownsRow_nil _ _ _ _) wy.heap.size 0 3 3 [s1, s2, mk [61]] rfl rfl (fun z hz v hv => by obtain rfl := List.mem_singleton.1 hv; rfl) (fun j u hj => by rw [strRow] at hj; rw [Nat.zero_add]; exact lit_cells wy (strs [s1, s2, mk [61]]) _ j u hj) (by simp [maxLen]) (by simp) (hy.alloc _).size ?_
   intro v6 w6 hown6 hgr6
   rw [strRow] at hown6
   have HR6 := hid (HZ.out.more (m := [s1, s2, mk [61]]) hown6 rfl hgr6)
   obtain ⟨p6, c6, h60⟩ := own_form hown6
   subst h60
   have h6 : Aft w1 w6 := HR6.out.2
   clear hown6 hgr6 HZ
   refine hK.out _ _ ?_ (fun hHeld => ?_)
   ·exact h6
   clear hK K
   refine zP 8 rfl ?_
   refine wpAnyZ_done (by kernel_rfl) ?_ _
   refine NoPanic.normal ?_
   go_wp2_with fail
   go_meet
   case rel => rw [HA.out]; exact HR6.out
 case rest =>
  obtain ⟨w3, hw3⟩ : ∃ wd : World, wd = wc := ⟨_, rfl⟩
  subst hw3
  have HR3 := hid hcut
  have h3 := hcut.2
  clear hcut HAB
  have hla := ansW_len x reg
  have hlw : (ansW x reg).length ≤ 100000 := by omega
  have HLA := hid hla
  clear hla
  go_wp2_with fail
  refine (HCW.out w3).mono ?_
  rintro e w4 ⟨rfl, hb4⟩
  have HR4 := hid (HR3.out.on hb4)
  clear HCW HR3 hb4 h3
  generalize hso : opw x.op = so at *
  have HSO := hid hso
  clear hso
  go_wp2_with (at_builtin; refine wpList_append_words (ws := [so]) rfl (.tmp 18) (.tmp 22) rfl HR4.out rfl rfl rfl (by decide) hlw ?_)
  intro v5 w5 hR5
  have HR5 := hid hR5
  have h5 : Aft w1 w5 := hR5.2
  clear hR5 HR4 hlw
  by_cases q : k = 22
  ·have e22 : ((k : Int) == 22) = true := by simp; omega
   have HARG : Hid (argW x = pairW (x.frm.zip x.args)) := by show argW x = _; unfold argW; rw [if_pos (by have := HK.out; omega)]
   have hnum : numW x.op x.n = [] := by unfold numW; rw [if_neg (by have := HK.out; omega), if_neg (by have := HK.out; omega)]
   have hab : abL x = [] := by unfold abL; rw [show x.op = 22 by have := HK.out; omega]; rfl
   have HWD : Hid (insW x reg = ansW x reg ++ [so] ++ pairW (x.frm.zip x.args)) := by
    show insW x reg = _
    rw [insW_ref, hnum, hab, HARG.out, HSO.out]; simp
   have hlen := HLF.out (by have := HK.out; omega)
   have HVF1 := hid (HVF.out.below HB1.out)
   have HVA1 := hid (HVA.out.below HB1.out)
   have HZ : Hid (∀ j (h : j < x.frm.length) (h2 : j < x.args.length), pairW ((x.frm.zip x.args).take (j + 1)) = pairW ((x.frm.zip x.args).take j) ++ [mkw 98 x.frm[j], mkw 114 x.args[j]]) := fun j h h2 => by
    rw [List.take_succ_eq_append_getElem (by rw [List.length_zip]; omega), List.getElem_zip, pairW_append]
    rfl
   have HLEN := hid hlen
   have HR50 : Hid (RowW w1 v5 (ansW x reg ++ [so] ++ pairW ((x.frm.zip x.args).take 0)) w5) := by
    show RowW _ _ _ _
    rw [List.take_zero]
    show RowW _ _ (_ ++ []) _
    rw [List.append_nil]; exact HR5.out
   clear hnum hab hlen HR5 HVA HVF HLF HCU HARG q HSO
   go_wp2_with fail
   go_loopg [5, 6] x.frm.length (fun gk v i wr => ∃ (j : Nat), j + gk = x.frm.length ∧ i = .int .i64 j ∧ Hid (RowW w1 v (ansW x reg ++ [so] ++ pairW ((x.frm.zip x.args).take j)) wr) ∧ Aft w1 wr)
   case atStart => exact ⟨0, by omega, rfl, HR50, h5⟩
   case round =>
    obtain ⟨j, hj, rfl, HR, hw⟩ := hrel
    have HJ := hid hj
    clear hj HR50 h5
    by_cases hlt : j < x.frm.length
    rotate_left
    ·have htk : (x.frm.zip x.args).take j = x.frm.zip x.args := List.take_of_length_le (by rw [List.length_zip]; omega)
     rw [htk, ← HWD.out] at HR
     have hjn : j = x.frm.length := by have := HJ.out; omega
     obtain ⟨pu, cu, h90⟩ := own_form HR.out.1
     subst h90
     have hji : ¬ ((j : Int) < x.frm.length) := by omega
     have HF : Hid (LineR (insW x reg) w (.returned (.slice pu (insW x reg).length cu)) wr) := ⟨_, rfl, LxP.owns_base HR.out.1 HB1.out.size, HB1.out.trans (Below.mono hw HB1.out.size)⟩
     clear HR htk HZ hlt hjn HJ HMR
     generalize (insW x reg).length = nl at *
     generalize x.frm.length = n1 at *
     go_wp2
     go_ret
     exact HF.out
    have hlt2 : j < x.args.length := by have := HLEN.out; omega
    obtain ⟨b1, o1, hfa, hb1, d1⟩ := TyP.ints_at HVF1.out j hlt
    subst hfa
    obtain ⟨b2, o2, haa, hb2, d2⟩ := TyP.ints_at HVA1.out j hlt2
    subst haa
    have ld1 := later d1
    have ld2 := later d2
    have HZK := hid (HZ.out j hlt hlt2)
    have HMA := hid (HMR.out 98 x.frm[j] (HI2.out _ (List.getElem_mem hlt)))
    have HMB := hid (HMR.out 114 x.args[j] (HI1.out _ (List.getElem_mem hlt2)))
    rw [show (((98 : UInt8).toNat : Nat) : Int) = 98 from rfl] at HMA
    rw [show (((114 : UInt8).toNat : Nat) : Int) = 114 from rfl] at HMB
    have hji : (j : Int) < x.frm.length := by omega
    have hji2 : (j : Int) < x.args.length := by omega
    have HJ2 : Hid (gk = x.frm.length - j ∧ j < x.frm.length) := ⟨by have := HJ.out; omega, hlt⟩
    have HLL : Hid ((ansW x reg ++ [so] ++ pairW ((x.frm.zip x.args).take j)).length ≤ 1000) := by
     show (_ : Nat) ≤ 1000
     rw [List.length_append, List.length_append, pairW_len, List.length_take, List.length_zip]
     have := HLA.out; have := HL.out; simp; omega
    clear HZ HJ HMR d1 d2
    generalize hs1 : mkw 98 x.frm[j] = s1 at *
    generalize hs2 : mkw 114 x.args[j] = s2 at *
    clear hs1 hs2
    generalize x.frm[j] = nf at *
    generalize x.args[j] = na at *
    clear hlt hlt2
    have hn1b : x.frm.length ≤ 9223372036854775807 := by have := HLEN.out; have := HL.out; omega
    generalize hn1 : x.frm.length = n1 at *
    have HN1 := hid hn1
    clear hn1
    generalize x.args.length = n2 at *
    generalize hLW : ansW x reg ++ [so] ++ pairW ((x.frm.zip x.args).take j) = LW at *
    have HLWE := hid hLW
    clear hLW
    have hd := hw.drew
    have HRD := hid (HR.out.on (Below.refl _ wr).drew)
    go_upto_region 9 with fail
    refine wp_region_noPanic ?_
    refine wp_region_Z (S := (fun w' => Aft w1 w')) (Z := []) (by kernel_rfl) ?_ (fun hHeld => ?_)
    ·exact hd
    refine zP 0 rfl ?_
    refine zP 1 rfl ?_
    refine zT 2 rfl ?_
    refine zP 3 rfl ?_
    refine zP 4 rfl ?_
    refine zT 5 rfl ?_
    refine zP 7 rfl ?_
    refine zT 8 rfl ?_
    refine zP 9 rfl ?_
    refine zP 10 rfl ?_
    refine zT 11 rfl ?_
    refine zC 6 rfl (fun K hK => ?_)
    go_simp
    (go_at_call 51; (with_reducible refine (HMA.out _).mono ?_); rintro e wx ⟨rfl, hbx⟩)
    have hx := hd.go hbx
    have HRX := hid (HRD.out.on hbx)
    refine hK.out _ _ ?_ (fun hHeld => ?_)
    ·exact hx
    clear hK K
    refine zC 12 rfl (fun K hK => ?_)
    go_simp
    (go_at_call 51; (with_reducible refine (HMB.out _).mono ?_); rintro e wy ⟨rfl, hby⟩)
    have hy := hx.go hby
    have HRY := hid (HRX.out.on hby)
    refine hK.out _ _ ?_ (fun hHeld => ?_)
    ·exact hy
    clear hK K
    refine zC 13 rfl (fun K hK => ?_)
    go_simp
    refine hK.out _ _ ?_ (fun hHeld => ?_)
    ·exact hy.alloc _
    clear hK K
    refine zC 14 rfl (fun K hK => ?_)
    rw [if_pos (by rfl)]
    have HRA := hid (HRY.out.on (LxP.alloc_below wy (.cells #[.string s1, .string s2] 9)))
    refine wp_append_row strW (by decide) infoStr Tryz.underlying74 rfl (.tmp 34) (.tmp 47) rfl w1.heap.size _ rfl LW.length (strs LW) HRA.out.1 wy.heap.size 0 2 2 [s1, s2] rfl rfl (fun z hz v hv => by obtain rfl := List.mem_singleton.1 hv; rfl) (fun j u hj => by rw [strRow] at hj; rw [Nat.zero_add]; exact lit_cells wy (strs [s1, s2]) _ j u hj) (by have := HLL.out; unfold maxLen; simp; omega) (by have := HLL.out; simp; omega) HRA.out.2.size ?_
    intro v6 w6 hown6 hgr6
    rw [strRow] at hown6
    have HR6 := hid (HRA.out.more (m := [s1, s2]) hown6 rfl hgr6)
    have h6 : Aft w1 w6 := HR6.out.2
    clear hown6 hgr6 HRA HRY HRX HRD HR
    refine hK.out _ _ ?_ (fun hHeld => ?_)
    ·exact h6
    clear hK K
    refine zP 15 rfl ?_
    refine wpAnyZ_done (by kernel_rfl) ?_ _
    refine NoPanic.normal ?_
    clear hHeld ld1 ld2 hd hx hy hbx hby hw HMA HMB
    go_wp2
    go_roundg (gk - 1)
    case measure => have := HJ2.out; omega
    case rel => exact ⟨j + 1, by have := HJ2.out; have := HN1.out; omega, by go_num, by (show RowW _ _ _ _; rw [HZK.out, ← List.append_assoc, HLWE.out]; exact HR6.out), h6⟩
  have HARG : Hid (argW x = x.args.map (mkw 114)) := by show argW x = _; unfold argW; rw [if_neg (by have := HK.out; omega)]
  have e22 : ((k : Int) == 22) = false := by simp; omega
  have HAB2 : Hid (usesOf ⟨(k : Int), 0, x.a, x.b, 0, [], []⟩ = abL x) := by
   show usesOf _ = _
   rw [← HK.out]
   unfold usesOf abL
   simp
  have HAI := hid (abL_i64 HI.out.2.1 HI.out.2.2.1)
  have HMK := hid (fun v ws wx (hx : Aft w1 wx) (ho : wx.ownsRow w1.heap.size 9 1 v ws.length (strs ws)) (hws : ws.length ≤ 10000) => marks_calls v ws 114 (.slice aa x.args.length ac) x.args w1.heap.size wx ho hx.size (HVA.out.below (HB1.out.trans (Below.mono hx HB1.out.size))) (fun wy hy _ => HVA.out.below (HB1.out.trans (Below.mono (Below.trans hx hy) HB1.out.size))) HI1.out hws (by have := HL.out; omega))
  rw [show (((114 : UInt8).toNat : Nat) : Int) = 114 from rfl] at HMK
  rw [HAB2.out] at HCU
  clear HVA HVF HLF HI1 HI2 q
  go_wp2_with fail
  refine (HCU.out w5).mono ?_
  rintro e w6 ⟨uv, un, rfl, hou, hb6⟩
  obtain rfl : un = (abL x).length := by have := LxP.own_len hou; rw [this, intVals_length]
  obtain ⟨ua, uc, rfl⟩ := own_form hou
  have HR6 := hid (HR5.out.on hb6)
  have h6 : Aft w1 w6 := HR6.out.2
  have hou2 := LxP.owns_base hou h5.size
  have hul := abL_len x
  have hil : IntsAt w6 (.slice ua (abL x).length uc) (abL x) := intsAt_of_owns hou2 (by omega)
  have HC := hid (marks_calls v5 (ansW x reg ++ [so]) 114 (.slice ua (abL x).length uc) (abL x) w1.heap.size w6 HR6.out.1 h6.size hil (fun wy _ hk => intsAt_of_owns (KeepT.ints hou2 hk) (by omega)) HAI.out (by rw [List.length_append]; have := HLA.out; simp; omega) (by omega))
  rw [show (((114 : UInt8).toNat : Nat) : Int) = 114 from rfl] at HC
  clear HCU HR5 hou hou2 hil hul h5 HR6 hb6
  generalize (abL x).length = an at *
  go_wp2_with fail
  refine HC.out.mono ?_
  rintro e w7 ⟨u7, rfl, ho7, hb7⟩
  obtain ⟨LW, hLW⟩ : ∃ LW, LW = ansW x reg ++ [so] ++ (abL x).map (mkw 114) := ⟨_, rfl⟩
  rw [← hLW] at ho7
  have HR5 : Hid (RowW w1 u7 LW w7) := ⟨ho7, Below.trans h6 hb7⟩
  have HLE := hid hLW
  have hlw2 : LW.length ≤ 100 := by rw [hLW, List.length_append, List.length_append, List.length_map]; have := HLA.out; have := abL_len x; simp; omega
  have HLW : Hid (LW.length ≤ 100000) := by show LW.length ≤ 100000; omega
  have HLW2 : Hid (LW.length ≤ 9000) := by show LW.length ≤ 9000; omega
  obtain ⟨p7, c7, h70⟩ := own_form ho7
  subst h70
  have h7a : Aft w1 w7 := HR5.out.2
  clear HC ho7 hb7 hLW hlw2 h6
  have HNW := hid (fun wx => NumW.write_calls x.n HI.out.2.2.2.1 wx)
  rw [show (⟨(itoa x.n).toArray⟩ : ByteArray) = nmw x.n from rfl] at HNW
  have HMF := hid (HMR.out 102 x.n HI.out.2.2.2.1)
  rw [show (((102 : UInt8).toNat : Nat) : Int) = 102 from rfl] at HMF
  clear HMR
  by_cases q1 : k = 1
  ·have HNP : Hid (numW x.op x.n = [nmw x.n]) := by show numW _ _ = _; unfold numW; rw [if_pos (by have := HK.out; omega)]
   have e1 : ((k : Int) == 1) = true := by simp; omega
   clear q1
   have hh := HR5.out.2
   go_wp2_with fail
   refine (HNW.out w7).mono ?_
   rintro e w6 ⟨rfl, hb6⟩
   have HR6 := hid (HR5.out.on hb6)
   clear HR5 hb6 hh
   have hwn : [nmw x.n].length = 1 := rfl
   have hlw := HLW.out
   generalize hsw : nmw x.n = sw at *
   have HSW := hid hsw
   clear hsw
   go_wp2_with (at_builtin; refine wpList_append_words (ws := [sw]) rfl (.tmp 65) (.tmp 69) rfl HR6.out rfl rfl rfl (by decide) hlw ?_)
   intro v7 w7 hR7
   have HR7 : Hid (RowW w1 v7 (LW ++ numW x.op x.n) w7) := by rw [HNP.out]; exact hR7
   have h7 : Aft w1 w7 := hR7.2
   clear hR7 HR6 hwn hlw HSW
   have hlw2 : (LW ++ numW x.op x.n).length ≤ 10000 := by have := HLW2.out; have := numW_le x.op x.n; rw [List.length_append]; omega
   have HC := hid (HMK.out v7 (LW ++ numW x.op x.n) w7 h7 HR7.out.1 hlw2)
   clear hlw2 HR7 HMK
   go_wp2_with fail
   refine HC.out.mono ?_
   rintro e w9 ⟨u, rfl, ho9, hb9⟩
   obtain ⟨pu, cu, h90⟩ := own_form ho9
   subst h90
   have HF : Hid (LineR (insW x reg) w (.returned (.slice pu (LW ++ numW x.op x.n ++ x.args.map (mkw 114)).length cu)) w9) := by
    show LineR _ _ _ _
    have h9 := Below.trans h7 hb9
    have e9 : insW x reg = LW ++ numW x.op x.n ++ x.args.map (mkw 114) := by
     rw [insW_ref, HLE.out, HARG.out, HSO.out]; simp
    rw [e9]
    exact ⟨_, rfl, LxP.owns_base ho9 HB1.out.size, HB1.out.trans (h9.mono HB1.out.size)⟩
   clear HC ho9 hb9 h7
   generalize (LW ++ numW x.op x.n ++ x.args.map (mkw 114)).length = nl at *
   go_wp2
   go_ret
   exact HF.out
  by_cases q14 : k = 14
  ·have HNP : Hid (numW x.op x.n = [nmw x.n]) := by show numW _ _ = _; unfold numW; rw [if_pos (by have := HK.out; omega)]
   have e1 : ((k : Int) == 1) = false := by simp; omega
   have e14 : ((k : Int) == 14) = true := by simp; omega
   clear q14 q1
   have hh := HR5.out.2
   go_wp2_with fail
   refine (HNW.out w7).mono ?_
   rintro e w6 ⟨rfl, hb6⟩
   have HR6 := hid (HR5.out.on hb6)
   clear HR5 hb6 hh
   have hwn : [nmw x.n].length = 1 := rfl
   have hlw := HLW.out
   generalize hsw : nmw x.n = sw at *
   have HSW := hid hsw
   clear hsw
   go_wp2_with (at_builtin; refine wpList_append_words (ws := [sw]) rfl (.tmp 65) (.tmp 69) rfl HR6.out rfl rfl rfl (by decide) hlw ?_)
   intro v7 w7 hR7
   have HR7 : Hid (RowW w1 v7 (LW ++ numW x.op x.n) w7) := by rw [HNP.out]; exact hR7
   have h7 : Aft w1 w7 := hR7.2
   clear hR7 HR6 hwn hlw HSW
   have hlw2 : (LW ++ numW x.op x.n).length ≤ 10000 := by have := HLW2.out; have := numW_le x.op x.n; rw [List.length_append]; omega
   have HC := hid (HMK.out v7 (LW ++ numW x.op x.n) w7 h7 HR7.out.1 hlw2)
   clear hlw2 HR7 HMK
   go_wp2_with fail
   refine HC.out.mono ?_
   rintro e w9 ⟨u, rfl, ho9, hb9⟩
   obtain ⟨pu, cu, h90⟩ := own_form ho9
   subst h90
   have HF : Hid (LineR (insW x reg) w (.returned (.slice pu (LW ++ numW x.op x.n ++ x.args.map (mkw 114)).length cu)) w9) := by
    show LineR _ _ _ _
    have h9 := Below.trans h7 hb9
    have e9 : insW x reg = LW ++ numW x.op x.n ++ x.args.map (mkw 114) := by
     rw [insW_ref, HLE.out, HARG.out, HSO.out]; simp
    rw [e9]
    exact ⟨_, rfl, LxP.owns_base ho9 HB1.out.size, HB1.out.trans (h9.mono HB1.out.size)⟩
   clear HC ho9 hb9 h7
   generalize (LW ++ numW x.op x.n ++ x.args.map (mkw 114)).length = nl at *
   go_wp2
   go_ret
   exact HF.out
  by_cases q3 : k = 3
  ·have HNP : Hid (numW x.op x.n = [mkw 102 x.n]) := by show numW _ _ = _; unfold numW; rw [if_neg (by have := HK.out; omega), if_pos (by have := HK.out; omega)]
   have e1 : ((k : Int) == 1) = false := by simp; omega
   have e14 : ((k : Int) == 14) = false := by simp; omega
   have e3 : ((k : Int) == 3) = true := by simp; omega
   clear q3 q1 q14
   have hh := HR5.out.2
   go_wp2_with fail
   refine (HMF.out w7).mono ?_
   rintro e w6 ⟨rfl, hb6⟩
   have HR6 := hid (HR5.out.on hb6)
   clear HR5 hb6 hh
   have hwn : [mkw 102 x.n].length = 1 := rfl
   have hlw := HLW.out
   generalize hsw : mkw 102 x.n = sw at *
   have HSW := hid hsw
   clear hsw
   go_wp2_with (at_builtin; refine wpList_append_words (ws := [sw]) rfl (.tmp 74) (.tmp 78) rfl HR6.out rfl rfl rfl (by decide) hlw ?_)
   intro v7 w7 hR7
   have HR7 : Hid (RowW w1 v7 (LW ++ numW x.op x.n) w7) := by rw [HNP.out]; exact hR7
   have h7 : Aft w1 w7 := hR7.2
   clear hR7 HR6 hwn hlw HSW
   have hlw2 : (LW ++ numW x.op x.n).length ≤ 10000 := by have := HLW2.out; have := numW_le x.op x.n; rw [List.length_append]; omega
   have HC := hid (HMK.out v7 (LW ++ numW x.op x.n) w7 h7 HR7.out.1 hlw2)
   clear hlw2 HR7 HMK
   go_wp2_with fail
   refine HC.out.mono ?_
   rintro e w9 ⟨u, rfl, ho9, hb9⟩
   obtain ⟨pu, cu, h90⟩ := own_form ho9
   subst h90
   have HF : Hid (LineR (insW x reg) w (.returned (.slice pu (LW ++ numW x.op x.n ++ x.args.map (mkw 114)).length cu)) w9) := by
    show LineR _ _ _ _
    have h9 := Below.trans h7 hb9
    have e9 : insW x reg = LW ++ numW x.op x.n ++ x.args.map (mkw 114) := by
     rw [insW_ref, HLE.out, HARG.out, HSO.out]; simp
    rw [e9]
    exact ⟨_, rfl, LxP.owns_base ho9 HB1.out.size, HB1.out.trans (h9.mono HB1.out.size)⟩
   clear HC ho9 hb9 h7
   generalize (LW ++ numW x.op x.n ++ x.args.map (mkw 114)).length = nl at *
   go_wp2
   go_ret
   exact HF.out
  by_cases q18 : k = 18
  ·have HNP : Hid (numW x.op x.n = [mkw 102 x.n]) := by show numW _ _ = _; unfold numW; rw [if_neg (by have := HK.out; omega), if_pos (by have := HK.out; omega)]
   have e1 : ((k : Int) == 1) = false := by simp; omega
   have e14 : ((k : Int) == 14) = false := by simp; omega
   have e3 : ((k : Int) == 3) = false := by simp; omega
   have e18 : ((k : Int) == 18) = true := by simp; omega
   clear q18 q1 q14 q3
   have hh := HR5.out.2
   go_wp2_with fail
   refine (HMF.out w7).mono ?_
   rintro e w6 ⟨rfl, hb6⟩
   have HR6 := hid (HR5.out.on hb6)
   clear HR5 hb6 hh
   have hwn : [mkw 102 x.n].length = 1 := rfl
   have hlw := HLW.out
   generalize hsw : mkw 102 x.n = sw at *
   have HSW := hid hsw
   clear hsw
   go_wp2_with (at_builtin; refine wpList_append_words (ws := [sw]) rfl (.tmp 74) (.tmp 78) rfl HR6.out rfl rfl rfl (by decide) hlw ?_)
   intro v7 w7 hR7
   have HR7 : Hid (RowW w1 v7 (LW ++ numW x.op x.n) w7) := by rw [HNP.out]; exact hR7
   have h7 : Aft w1 w7 := hR7.2
   clear hR7 HR6 hwn hlw HSW
   have hlw2 : (LW ++ numW x.op x.n).length ≤ 10000 := by have := HLW2.out; have := numW_le x.op x.n; rw [List.length_append]; omega
   have HC := hid (HMK.out v7 (LW ++ numW x.op x.n) w7 h7 HR7.out.1 hlw2)
   clear hlw2 HR7 HMK
   go_wp2_with fail
   refine HC.out.mono ?_
   rintro e w9 ⟨u, rfl, ho9, hb9⟩
   obtain ⟨pu, cu, h90⟩ := own_form ho9
   subst h90
   have HF : Hid (LineR (insW x reg) w (.returned (.slice pu (LW ++ numW x.op x.n ++ x.args.map (mkw 114)).length cu)) w9) := by
    show LineR _ _ _ _
    have h9 := Below.trans h7 hb9
    have e9 : insW x reg = LW ++ numW x.op x.n ++ x.args.map (mkw 114) := by
     rw [insW_ref, HLE.out, HARG.out, HSO.out]; simp
    rw [e9]
    exact ⟨_, rfl, LxP.owns_base ho9 HB1.out.size, HB1.out.trans (h9.mono HB1.out.size)⟩
   clear HC ho9 hb9 h7
   generalize (LW ++ numW x.op x.n ++ x.args.map (mkw 114)).length = nl at *
   go_wp2
   go_ret
   exact HF.out
  ·have HNP : Hid (numW x.op x.n = []) := by show numW _ _ = _; unfold numW; rw [if_neg (by have := HK.out; omega), if_neg (by have := HK.out; omega)]
   have e1 : ((k : Int) == 1) = false := by simp; omega
   have e14 : ((k : Int) == 14) = false := by simp; omega
   have e3 : ((k : Int) == 3) = false := by simp; omega
   have e18 : ((k : Int) == 18) = false := by simp; omega
   clear q1 q14 q3 q18
   have HR7 : Hid (RowW w1 (.slice p7 LW.length c7) (LW ++ numW x.op x.n) w7) := by
    show RowW _ _ _ _
    rw [HNP.out, List.append_nil]
    exact HR5.out
   have h7 := h7a
   obtain ⟨v7, hv7⟩ : ∃ v7, v7 = Value.slice p7 LW.length c7 := ⟨_, rfl⟩
   rw [← hv7] at HR7 ⊢
   clear hv7 HR5
   have hlw2 : (LW ++ numW x.op x.n).length ≤ 10000 := by have := HLW2.out; have := numW_le x.op x.n; rw [List.length_append]; omega
   have HC := hid (HMK.out v7 (LW ++ numW x.op x.n) w7 h7 HR7.out.1 hlw2)
   clear hlw2 HR7 HMK
   go_wp2_with fail
   refine HC.out.mono ?_
   rintro e w9 ⟨u, rfl, ho9, hb9⟩
   obtain ⟨pu, cu, h90⟩ := own_form ho9
   subst h90
   have HF : Hid (LineR (insW x reg) w (.returned (.slice pu (LW ++ numW x.op x.n ++ x.args.map (mkw 114)).length cu)) w9) := by
    show LineR _ _ _ _
    have h9 := Below.trans h7 hb9
    have e9 : insW x reg = LW ++ numW x.op x.n ++ x.args.map (mkw 114) := by
     rw [insW_ref, HLE.out, HARG.out, HSO.out]; simp
    rw [e9]
    exact ⟨_, rfl, LxP.owns_base ho9 HB1.out.size, HB1.out.trans (h9.mono HB1.out.size)⟩
   clear HC ho9 hb9 h7
   generalize (LW ++ numW x.op x.n ++ x.args.map (mkw 114)).length = nl at *
   go_wp2
   go_ret
   exact HF.out
end Go.Proofs.YtbebficgcemkoaaGreatDoor.WvI
