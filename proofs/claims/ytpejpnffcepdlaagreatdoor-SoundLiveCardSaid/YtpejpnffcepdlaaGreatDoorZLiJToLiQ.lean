/- The keys of a set of numbers, collected; the least of them. Walks over (*live.body).found and (*live.body).atEnd. Walk over (*live.body).those, with whatever tells. Walks over the closures of live.At and live.End. Walk over live.End. Walk over live.At. -/
import Derived.Test.YtpejpnffcepdlaaGreatDoorZShelf
import Derived.Test.YtpejpnffcepdlaaGreatDoorZLiEToLiK
import Derived.Test.YtpejpnffcepdlaaGreatDoorZTyW
import Derived.Test.YtpejpnffcepdlaaGreatDoorZLvQToSvK
import Derived.Test.YtpejpnffcepdlaaGreatDoorZRgZToRgY
namespace Go.Proofs.YtpejpnffcepdlaaGreatDoor.LiJ
open Go.RowKit Go.Lib Go.Maps SetP IntO TyM TyP TyB TyW ShM ShP FwQ FwR LiE

theorem keys_c (bm : Nat) (w : World) : Calls Tryz.prog 142 #[.map (some bm)] w fun e w' => e = .returned (.func (.func 181) #[] #[.pointer (some ⟨w.heap.size, 0, none⟩)]) ∧ w' = w.alloc (.cells #[.map (some bm)] 102) :=
 (callsIn_wide (n := 5)).1 (AnyZI.keys_in Tryz.keysA Fence.wide 5 trivial rfl (some bm) w)
theorem collect_c (bm : Nat) (l : List Nat) (w : World) (h : MapS w bm l) (hl : l.length ≤ 1000) : Calls Tryz.prog 141 #[.func (.func 181) #[] #[.pointer (some ⟨w.heap.size, 0, none⟩)]] (w.alloc (.cells #[.map (some bm)] 102)) fun e w' => ∃ v ss, e = .returned v ∧ ss.Perm (ints l) ∧ w'.ownsRow w.heap.size 3 1 v ss.length (intVals ss) ∧ Below w.heap.size w w' := by
 obtain ⟨hnd, D, hown, hh⟩ := h
 have hsz := size_of hnd hown hh
 have hkp := keys_perm hnd hown hh
 have hbl := hown.lt
 have hseq : SeqGives Fence.wide 2 Tryz.prog 181 #[.pointer (some ⟨w.heap.size, 0, none⟩)] encZ (fun ss => ss.Perm (intKeys D)) (Maps.size D) (w.alloc (.cells #[.map (some bm)] 102)) :=
  AnyZI.keys_gives (ρ := Tryz.keysA_ren) { Tryz.keysA with } Fence.wide _ trivial rfl (by omega) w.heap.size bm _ D _ (by simp) (by simp) (by
   obtain ⟨es, clock, hb, Ft, hs, hD⟩ := hown
   exact ⟨es, clock, (Below.heap_alloc _ _ bm hbl).trans hb, Ft, hs, hD⟩)
 refine ((callsIn_wide (n := 4)).1 (AnyZI.collect_in Tryz.collectA Fence.wide 4 trivial trivial rfl (by omega) 181 #[.pointer (some ⟨w.heap.size, 0, none⟩)] trivial (enters_of Tryz.func181 (by kernel_rfl) rfl) _ (Maps.size D) (by unfold maxLen; omega) (by omega) _ hseq)).mono ?_
 rintro e w' ⟨v, ss, rfl, hp, hr, _, hb⟩
 have h1 : Below w.heap.size w (w.alloc (.cells #[.map (some bm)] 102)) := (Below.refl _ w).alloc (Nat.le_refl _) _
 exact ⟨v, ss, rfl, hp.trans hkp.symm, owns_base hr (by simp), h1.trans (hb.mono (by simp))⟩
theorem fold_min : ∀ (l : List Int) (a : Int), l.foldl min a = a ∨ l.foldl min a ∈ l
 | [], a => .inl rfl
 | x :: l, a => by
  rw [List.foldl_cons]
  rcases fold_min l (min a x) with h | h
  ·rw [h]
   rcases Int.le_total a x with e | e
   ·rw [Int.min_eq_left e]; exact .inl rfl
   ·rw [Int.min_eq_right e]; exact .inr List.mem_cons_self
  ·exact .inr (List.mem_cons_of_mem _ h)
theorem min_mem {zs : List Int} (h : 0 < zs.length) : minOf zs ∈ zs := by
 cases zs with
 | nil => simp at h
 | cons z zs =>
  unfold minOf
  rcases fold_min (z :: zs) z with e | e
  ·rw [show (z :: zs).headD 0 = z from rfl, e]; exact List.mem_cons_self
  ·exact e
theorem min_c (v : Value) (ss : List Int) (B : Nat) (w : World) (h : w.ownsRow B 3 1 v ss.length (intVals ss)) (h0 : 0 < ss.length) (hl : ss.length ≤ 1000) : Calls Tryz.prog 140 #[v] w fun e w' => e = .returned (.int .i64 (minOf ss)) ∧ w' = w := by
 obtain ⟨g, cap, rfl, _, _, _, hc⟩ := row_cells h (by rw [intVals_length]; exact h0)
 have := Tryz.slices_Min_int g 0 ss.length cap ss w h0 (Nat.le_refl _) (by omega) (fun j hj => by
  rw [Nat.zero_add]
  refine hc j _ ?_
  simp [intVals, hj])
 rwa [List.take_length] at this
end Go.Proofs.YtpejpnffcepdlaaGreatDoor.LiJ
namespace Go.Proofs.YtpejpnffcepdlaaGreatDoor.LiL
open Go.RowKit Go.Lib Go.Maps SetP IntO TyM TyP TyB ShM ShP RwO Aft BitOf FwP FwQ FwR FwM FwB IntG LvM LvQ LvW LuM LgD LiM LiA LiE LiF LiI LiJ LiK

theorem SrchAt.del {W w w' : World} {ps pb bm r : Nat} {A G : List Nat} (h : SrchAt W ps pb bm r A G w) {D : DataW Unit} {n b : Nat} (hh : ∀ x : Int, Maps.has D (.int .i64 x) = decide (x ∈ ints A)) (ho : w'.ownsMap Tryz.prog 3 unitElem bm n (D.del (.int .i64 (b : Int)))) (hg : w.grownBy w' (some bm)) : SrchAt W ps pb bm r (A.erase b) G w' :=
 ⟨h.but.trans hg, (hg.block ps (Array.getElem?_eq_some_iff.1 h.blk).1 (fun e => h.ne (Option.some.inj e).symm)).trans h.blk, mapS_del h.map.1 hh ho, h.hps⟩
theorem Srch.sub2 {l : List Bx} {own : Nat → Nat → Nat} {r b : Nat} {A G : List Nat} (h : Srch l own r b A G) {k : Nat} (hk : k ∈ A) : ∀ j ∈ A.erase k, j ∈ G := by
 intro j hj
 rcases h.sub with ⟨rfl, _⟩ | e
 ·have := List.mem_singleton.1 hk
  subst this
  simp at hj
 ·exact e j (List.mem_of_mem_erase hj)
/-- it has been told -/
def FndR (W : World) (bm : Nat) (ans : Bool) (e : Ending) (w' : World) : Prop := e = .returned (.bool ans) ∧ But bm W w' ∧ MapS w' bm []

set_option maxRecDepth 100000 in
set_option maxHeartbeats 16000000 in
theorem found_c (W : World) (ps pb bm N par : Nat) (bl : List Bx) (rb rc : Nat) (B : Body W pb bm N par bl rb rc) (hlow : Low bl) (hR : Regs N bl) (hN : N ≤ 1048576) (h16 : bl.length ≤ 16) (r : Nat) (hr : r < 1048576)
  (b : Nat) (hb : b < bl.length) (w : World) (h : SrchAt W ps pb bm r [] [] w) :
  Calls Tryz.prog 92 #[.pointer (some ⟨pb, 0, none⟩), .int .i64 (b : Int), .func (.func 93) #[.pointer (some ⟨ps, 0, none⟩)] #[]] w (FndR W bm (endB par bl b r)) := by
 have q0 := B.anew w h.but
 obtain ⟨hnd, D, hown, hh⟩ := h.map
 have HPUT := hid (fun (w5 : World) (d : DataW Unit) ho hg => h.put (w' := w5) (b := b) (d := d) hown hh (by simp) ho hg)
 have hml : Maps.size D < maxLen := by
  have h1 := LiE.size_of hnd hown hh
  unfold maxLen
  simp at h1
  omega
 have hkey := key_int (n := b) (by omega)
 have HST := hid (srch_start (own := ownN par bl) (r := r) hb)
 have HLK := hid (fun (A G : List Nat) hAG hG hGl (k : Nat) (hk : k < bl.length) (wx : World) hs => look_c W ps pb bm N par bl rb rc B hlow hR hN h16 r hr A G hAG hG hGl k hk wx hs)
 have HEN : Hid (Lv bl (ownN par bl) r b ((insAt bl b).length + 1) → endB par bl b r = true) := fun e => (endB_iff hlow hb).2 e
 have HEF : Hid (¬ Lv bl (ownN par bl) r b ((insAt bl b).length + 1) → endB par bl b r = false) := fun e => by
  cases h1 : endB par bl b r with
  | false => rfl
  | true => exact absurd ((endB_iff hlow hb).1 h1) e
 have HLOW := hid hlow
 have H16 := hid h16
 have HB := hid B
 clear h B hlow hR hN hr h16 hnd hh hb
 generalize endB par bl b r = ans at *
 go_enter Tryz.func92, Tryz.ntmps92
 go_wp2_with (at_mapUpdate; refine wpList_mapUpdate_own _ rfl _ _ _ 102 rfl 3 215 law_int Tryz.underlying102 (unitElem (H := Unit)) bm (Maps.size D) D rfl hown hml _ _ _ rfl rfl hkey _ [] unitElem_mk ?_)
 intro w1 hown1 hgrow1
 have hs1 := HPUT.out w1 _ hown1 hgrow1
 rw [List.nil_append] at hs1
 have HS1 := hid hs1
 clear HPUT hown hown1 hgrow1 hkey hml q0 hs1
 go_wp2_with fail
 go_loopg [7, 8] 40 (fun gk isv _ wr => ∃ (is : Bool) (A G : List Nat), isv = .bool is ∧ SrchAt W ps pb bm r A G wr ∧ (is = false → Srch bl (ownN par bl) r b A G) ∧ (is = true → Lv bl (ownN par bl) r b ((insAt bl b).length + 1)) ∧ G.length ≤ 16 ∧ 2 * (16 - G.length) + A.length ≤ gk)
 case atStart => exact ⟨false, [b], [], rfl, HS1.out, fun _ => HST.out, (fun e => by cases e), by simp, by simp⟩
 case round =>
  obtain ⟨is, A, G, rfl, hs, hf, ht, hG, hm⟩ := hrel
  have HS := hid hs
  have HG := hid hG
  have HM := hid hm
  have q0 := HB.out.anew wr hs.but
  obtain ⟨hnd, D, hown, hh⟩ := hs.map
  have hsz := LiE.size_of hnd hown hh
  have hlen : ∀ ty, (Builtin.len_ #[102] ty #[.map (some bm)]).run Tryz.prog wr = .ok (.int .i64 (A.length : Int)) wr := fun ty => by
   rw [hown.len Tryz.underlying102 ty, hsz]
  clear HS1 HST hG hm
  cases is with
  | true =>
   have HA := hid (HEN.out (ht rfl))
   have HH := hid hs
   clear hf ht hs hlen hsz hnd hh
   obtain ⟨w9, hcl, hown9, hg9⟩ := run_clear Tryz.underlying102 hown
   have HF := hid (show FndR W bm ans (.returned (.bool true)) w9 from ⟨by rw [HA.out], HS.out.but.trans hg9, mapS_clear hown9⟩)
   clear hown hown9 hg9
   go_wp2
   go_ret
   exact HF.out
  | false =>
   have hsr := hf rfl
   have HSR := hid hsr
   by_cases hA0 : A.length = 0
   ·obtain rfl : A = [] := List.eq_nil_of_length_eq_zero hA0
    have HA := hid (HEF.out hsr.none)
    have hlen0 : ∀ ty, (Builtin.len_ #[102] ty #[.map (some bm)]).run Tryz.prog wr = .ok (.int .i64 0) wr := hlen
    obtain ⟨w9, hcl, hown9, hg9⟩ := run_clear Tryz.underlying102 hown
    have HF := hid (show FndR W bm ans (.returned (.bool false)) w9 from ⟨by rw [HA.out], HS.out.but.trans hg9, mapS_clear hown9⟩)
    clear hf ht hs hlen hsz hnd hh hown hown9 hg9 hsr hA0 HS
    go_wp2
    go_ret
    exact HF.out
   ·have hap : (0 : Int) < (A.length : Int) := by omega
    have HKC := hid (collect_c bm A wr hs.map (by
     have h1 := FwM.nodup_len 16 hs.map.1 (fun v hv => by
      have := hsr.lt HLOW.out (.inl hv)
      have := H16.out
      omega)
     omega))
    have HA16 : Hid (A.length ≤ 16) := by
     show _ ≤ _
     exact FwM.nodup_len 16 hs.map.1 (fun v hv => by
      have := hsr.lt HLOW.out (.inl hv)
      have := H16.out
      omega)
    have HKEY := hid (keys_c bm wr)
    have HAP := hid hap
    clear hf ht hs hsz hnd hh hown hsr hA0
    go_upto_region 4 with fail
    clear hlen
    go_wp2_with fail
    refine HKEY.out.mono ?_
    rintro e wk ⟨rfl, rfl⟩
    go_wp2_with fail
    refine HKC.out.mono ?_
    rintro e w2 ⟨v, ss, rfl, hp, hrow, hb2⟩
    have hsl : ss.length = A.length := by have := hp.length_eq; rwa [ints_length] at this
    have hs2 := HS.out.go hb2
    have HMN := hid (min_c v ss wr.heap.size w2 hrow (by have := HAP.out; omega) (by have := HA16.out; omega))
    have hmin := min_mem (zs := ss) (by have := HAP.out; omega)
    have hmA := hp.mem_iff.1 hmin
    obtain ⟨k, hk⟩ : ∃ k : Nat, minOf ss = k := ⟨(minOf ss).toNat, by have := ints_nonneg hmA; omega⟩
    rw [hk] at hmA HMN
    have hkA := ints_mem.1 hmA
    obtain ⟨va, vc, rfl⟩ := own_form hrow
    have q1 := HB.out.anew w2 hs2.but
    obtain ⟨hnd, D2, hown2, hh⟩ := hs2.map
    have HKA := hid hkA
    have hkl := HSR.out.lt HLOW.out (.inl hkA)
    have hkey := key_int (n := k) (by have := H16.out; omega)
    obtain ⟨w3, hdel, hown3, hturn⟩ := hown2.drop law_int Tryz.underlying102 hkey 0
    have hs3 := SrchAt.del (w' := w3) (b := k) (n := Maps.size D2) hs2 hh hown3 hturn.grown
    have HS3 := hid hs3
    have HL1 := hid (HLK.out (A.erase k) G (Srch.sub2 HSR.out hkA) HSR.out.each (fun j hj => HSR.out.lt HLOW.out (.inr hj)) k hkl w3 hs3)
    have hel := List.length_erase_of_mem hkA
    have HEL := hid hel
    clear HKEY HKC hp hrow hb2 hsl hmin hk hmA hkA hnd hh hs2 hown2 hown3 hturn hs3 hkl hkey hel
    generalize ss.length = sn at *
    go_wp2_with fail
    refine HMN.out.mono ?_
    rintro e w2' ⟨rfl, rfl⟩
    clear HMN
    go_wp2_with fail
    refine HL1.out.mono ?_
    rintro e w4 ⟨new, rfl, hs4, hnd4, hp4, ha4⟩
    have HS4 := hid hs4
    have HSR4 := hid (fun (e : hitB bl (ownN par bl) r k = false) => HSR.out.step HKA.out e hnd4 hp4 (ha4 e))
    have HLV := hid (fun (e : hitB bl (ownN par bl) r k = true) => HSR.out.some HKA.out e)
    have HG4 : Hid ((G ++ new).length ≤ 16) := FwM.nodup_len 16 hnd4 (fun v hv => by
     have h16 := H16.out
     rcases List.mem_append.1 hv with e | e
     ·have := HSR.out.lt HLOW.out (.inr e)
      omega
     ·have := succ_lt HLOW.out k (HSR.out.lt HLOW.out (.inl HKA.out)) v (List.mem_filter.1 (hp4 v e)).1
      omega)
    clear hs4 hnd4 hp4 ha4 HL1 hdel q1
    generalize hitB bl (ownN par bl) r k = hit at *
    go_wp2
    go_roundg (2 * (16 - (G ++ new).length) + (A.erase k ++ new).length)
    case measure =>
     have h1 := HM.out
     have h2 := HEL.out
     have h3 := HG4.out
     have h4 := HAP.out
     simp only [List.length_append] at h3 ⊢
     omega
    case rel => exact ⟨hit, _, _, rfl, HS4.out, HSR4.out, HLV.out, HG4.out, Nat.le_refl _⟩
/-! atEnd -/
theorem Body.mono {W w : World} {pb bm N par : Nat} {bl : List Bx} {rb rc : Nat} (B : Body W pb bm N par bl rb rc) (h : But bm W w) : Body w pb bm N par bl rb rc := by
 refine ⟨fun w' hb => B.regs w' (h.trans hb), fun w' hb => B.row w' (h.trans hb), fun w' hb => B.anew w' (h.trans hb), Nat.lt_of_lt_of_le B.lt h.size, fun i hi => ?_⟩
 obtain ⟨ra, rn, na, nn, pa, pn, h0, h1, h2, h3, h4, h5, h6, h7⟩ := B.each i hi
 exact ⟨ra, rn, na, nn, pa, pn, fun w' hb => h0 w' (h.trans hb), fun w' hb => h1 w' (h.trans hb), fun w' hb => h2 w' (h.trans hb), fun w' hb => h3 w' (h.trans hb), fun w' hb => h4 w' (h.trans hb), fun w' hb => h5 w' (h.trans hb), fun w' hb => h6 w' (h.trans hb), fun w' hb => h7 w' (h.trans hb)⟩

set_option maxRecDepth 100000 in
set_option maxHeartbeats 8000000 in
theorem end_c (pb bm N par : Nat) (bl : List Bx) (rb rc : Nat) (hlow : Low bl) (hR : Regs N bl) (hN : N ≤ 1048576) (h16 : bl.length ≤ 16) (r : Nat) (hr : r < 1048576)
  (b : Nat) (hb : b < bl.length) (w : World) (B : Body w pb bm N par bl rb rc) (hm : MapS w bm []) :
  Calls Tryz.prog 53 #[.pointer (some ⟨pb, 0, none⟩), .int .i64 (r : Int), .int .i64 (b : Int)] w (FndR w bm (endB par bl b r)) := by
 obtain ⟨w1, hw1⟩ : ∃ w1, w1 = w.alloc (.cells #[.pointer (some ⟨pb, 0, none⟩), .int .i64 (r : Int), .bool false, .bool false, .bool false, .bool false, .bool false, .bool false, .bool false, .bool false, .bool false, .bool false, .bool false, .bool false, .bool false, .bool false, .bool false, .bool false] 151) := ⟨_, rfl⟩
 have hs : SrchAt w w.heap.size pb bm r [] [] w1 := by
  have h1 := TyD.alloc_new w (.cells #[.pointer (some ⟨pb, 0, none⟩), .int .i64 (r : Int), .bool false, .bool false, .bool false, .bool false, .bool false, .bool false, .bool false, .bool false, .bool false, .bool false, .bool false, .bool false, .bool false, .bool false, .bool false, .bool false] 151)
  rw [← hw1] at h1
  have hb1 : Below w.heap.size w w1 := by rw [hw1]; exact alloc_below _ _
  refine ⟨(But.refl bm w).go hb1, ?_, hm.kept (hb1.block bm hm.lt), Nat.le_refl _⟩
  rw [h1]
  rfl
 have HC := hid (found_c w w.heap.size pb bm N par bl rb rc B hlow hR hN h16 r hr b hb w1 hs)
 have HW1 := hid hw1
 clear hlow hR hN h16 hr hb B hm hs hw1
 go_enter Tryz.func53, Tryz.ntmps53
 go_wp2_with fail
 rw [← HW1.out]
 refine HC.out.mono ?_
 rintro e w2 ⟨rfl, hb2, hm2⟩
 go_wp2
 go_ret
 exact ⟨rfl, hb2, hm2⟩
end Go.Proofs.YtpejpnffcepdlaaGreatDoor.LiL
namespace Go.Proofs.YtpejpnffcepdlaaGreatDoor.LiN
open Go.RowKit Go.Lib Go.Maps SetP IntO TyM TyP TyB ShM ShP RwO Aft BitOf FwP FwQ FwR FwM FwB IntG LvM LvQ LvW LuM LgD LiM LiA LiE LiF LiI LiJ LiK LiL

theorem owns_map {bm B s n : Nat} {W w : World} {e : TypeId} {v : Value} {xs : List Value} {l : List Nat} (h : W.ownsRow B e s v n xs) (hm : MapS W bm l) (hg : But bm W w) : w.ownsRow B e s v n xs := by
 obtain ⟨_, D, ⟨es, clock, h1, _⟩, _⟩ := hm
 exact owns_but h h1 hg
theorem but_append {bm n : Nat} {w wr w3 : World} {tmp : Obj} {e : TypeId} {v : Value} {xs : List Value} (h : But bm w wr) (hm : MapS wr bm []) (hr : wr.ownsRow w.heap.size e 1 v n xs) (hg : (wr.alloc tmp).grownBy w3 v.ownBlock) : But bm w w3 ∧ MapS w3 bm [] := by
 have hs : wr.heap.size + 1 ≤ w3.heap.size := by have := hg.size; simpa using this
 have old : ∀ j, j < wr.heap.size → v.ownBlock ≠ some j → w3.heap[j]? = wr.heap[j]? := fun j hj hv => (hg.block j (by simp; omega) (fun e => hv e.symm)).trans (Below.heap_alloc _ _ _ hj)
 have h1 : w.grownBy wr (some bm) := h
 refine ⟨⟨hg.os.trans h1.os, hg.tape.trans h1.tape, hg.output.trans h1.output, by have := h1.size; omega, fun k hk hne => ?_⟩, hm.kept (old bm hm.lt fun e2 => ?_)⟩
 ·rw [old k (Nat.lt_of_lt_of_le hk h1.size) (fun e2 => by have := (hr.lt k e2).1; omega)]
  exact h1.block k hk hne
 ·obtain ⟨_, D, ⟨es, clock, h2, _⟩, _⟩ := hm
  obtain ⟨cs, fr, h3⟩ := own_typed hr bm e2
  rw [h2] at h3
  cases h3
/-- those of which it is so -/
def thoseL (T : Nat → Bool) (n : Nat) : List Nat := (List.range n).filter T
theorem those_succ (T : Nat → Bool) (n : Nat) : ints (thoseL T (n + 1)) = ints (thoseL T n) ++ (if T n = true then [(n : Int)] else []) := by
 unfold thoseL
 rw [List.range_succ, List.filter_append, ints_append]
 congr 1
 by_cases h : T n = true <;> simp [h, ints]
theorem those_len (T : Nat → Bool) (n : Nat) : (ints (thoseL T n)).length ≤ n := by
 rw [ints_length]
 unfold thoseL
 refine Nat.le_trans (List.length_filter_le _ _) ?_
 rw [List.length_range]
 exact Nat.le_refl _
/-- a list has been told -/
def ThsR (w : World) (bm : Nat) (l : List Int) (e : Ending) (w' : World) : Prop := ∃ u, e = .returned u ∧ w'.ownsRow w.heap.size 3 1 u l.length (intVals l) ∧ But bm w w' ∧ MapS w' bm []

set_option maxRecDepth 100000 in
set_option maxHeartbeats 8000000 in
theorem those_c (pb bm N par : Nat) (bl : List Bx) (rb rc : Nat) (hN : N ≤ 100000) (T : Nat → Bool) (g : FuncId) (he : Enters Tryz.prog g) (cb : Array Value) (w : World) (B : Body w pb bm N par bl rb rc) (hm : MapS w bm [])
  (hT : ∀ (i : Nat) (wx : World), i < N → But bm w wx → MapS wx bm [] → Calls Tryz.prog g (#[.int .i64 (i : Int)] ++ cb) wx (FndR wx bm (T i))) :
  Calls Tryz.prog 49 #[.pointer (some ⟨pb, 0, none⟩), .func (.func g) #[] cb] w (ThsR w bm (ints (thoseL T N))) := by
 obtain ⟨i0, hi, hz0, hz1, hz2⟩ := info_parts info_int
 have he' : ∀ args w, (callFunc g args).run Tryz.prog w = .ok (.enter g args) w := he
 have q0 := B.regs w (But.refl _ _)
 have HT := hid hT
 have HM := hid hm
 have HSU := hid (fun (n : Nat) => those_succ T n)
 have HLN := hid (fun (n : Nat) => those_len T n)
 have HZ : Hid (w.ownsRow w.heap.size 3 1 (.slice none 0 0) (ints (thoseL T 0)).length (intVals (ints (thoseL T 0)))) := World.ownsRow_nil _ _ _ _
 have HN := hid hN
 clear hT hm B he hN
 go_enter Tryz.func49, Tryz.ntmps49
 go_wp2_with fail
 go_loopg [5, 6, 11] N (fun gk u _ iv wr => ∃ i : Nat, i + gk = N ∧ iv = .int .i64 i ∧ wr.ownsRow w.heap.size 3 1 u (ints (thoseL T i)).length (intVals (ints (thoseL T i))) ∧ But bm w wr ∧ MapS wr bm [])
 case atStart => exact ⟨0, by omega, rfl, HZ.out, But.refl _ _, HM.out⟩
 case round =>
  obtain ⟨i, hi', rfl, hown, hbt, hm⟩ := hrel
  have HI := hid hi'
  have HO := hid hown
  have HBT := hid hbt
  have HMR := hid hm
  obtain ⟨ua, uc, rfl⟩ := own_form hown
  clear hi' HM HZ q0 hown
  by_cases hlt : i < N
  ·have HLT := hid hlt
   have HC := hid (HT.out i wr hlt hbt hm)
   have hil : (i : Int) < (N : Int) := by omega
   have hib : i ≤ 9223372036854775806 := by have := HN.out; omega
   have HSI := hid (HSU.out i)
   have HLI := hid (HLN.out i)
   clear hlt hbt hm
   obtain ⟨L, hL⟩ : ∃ L, ints (thoseL T i) = L := ⟨_, rfl⟩
   have HLE := hid hL
   rw [hL] at HO HSI HLI
   rw [hL]
   clear hL
   go_wp2_with fail
   refine HC.out.mono ?_
   rintro e w1 ⟨rfl, hb1, hm1⟩
   have hbt1 := HBT.out.trans hb1
   have ho1 := owns_map HO.out HMR.out hb1
   clear HC hb1
   cases ht : T i with
   | false =>
    rw [ht] at HSI
    rw [if_neg (by decide), List.append_nil] at HSI
    have HO1 := hid ho1
    have HB1 := hid hbt1
    have HM1 := hid hm1
    clear ht ho1 hbt1 hm1
    go_wp2
    go_roundg (gk - 1)
    case measure => have := HI.out; have := HLT.out; omega
    case rel => exact ⟨i + 1, by have := HI.out; have := HLT.out; omega, by go_num, by rw [HSI.out]; exact HO1.out, HB1.out, HM1.out⟩
   | true =>
    rw [ht, if_pos rfl] at HSI
    have HAP := hid (fun (w3 : World) hg => but_append (w3 := w3) (tmp := .cells #[.int .i64 (i : Int)] 3) hbt1 hm1 ho1 hg)
    have hll : L.length ≤ 100000 := by have := HLI.out; have := HN.out; have := HLT.out; omega
    have hsz : w.heap.size ≤ w1.heap.size := hbt1.size
    clear ht hbt1 hm1
    go_wp2_with (at_builtin; refine wpList_append_own _ rfl _ _ 29 rfl w.heap.size 3 i0 (.int .i64 0) 1 8 Tryz.underlying29 hi hz0 hz1 hz2 rfl (by decide) (.slice ua L.length uc) L.length (intVals L) rfl (ho1.alloc _) ⟨w1.heap.size, 0, none⟩ 1 1 [.int .i64 (i : Int)] rfl rfl (cell_one_new _ _ _) (by simp [Value.oneCell']) (by unfold maxLen; omega) (by omega) (by simp; omega) ?_)
    intro v3 w3 hown3 hgr3 _
    obtain ⟨hb3, hm3⟩ := HAP.out w3 hgr3
    have HO3 : Hid (w3.ownsRow w.heap.size 3 1 v3 (ints (thoseL T (i + 1))).length (intVals (ints (thoseL T (i + 1))))) := by
     show World.ownsRow _ _ _ _ _ _ _
     rw [HSI.out, intVals_append, List.length_append]
     exact hown3
    have HB3 := hid hb3
    have HM3 := hid hm3
    obtain ⟨va, vc, rfl⟩ := own_form hown3
    clear HAP hown3 hgr3 hb3 hm3 ho1 hll hsz
    go_wp2
    go_roundg (gk - 1)
    case measure => have := HI.out; have := HLT.out; omega
    case rel => exact ⟨i + 1, by have := HI.out; have := HLT.out; omega, by go_num, HO3.out, HB3.out, HM3.out⟩
  ·obtain rfl : i = N := by have := HI.out; omega
   clear hlt hbt hm
   go_wp2
   go_ret
   exact ⟨_, rfl, HO.out, HBT.out, HMR.out⟩
end Go.Proofs.YtpejpnffcepdlaaGreatDoor.LiN
namespace Go.Proofs.YtpejpnffcepdlaaGreatDoor.LiO
open Go.RowKit Go.Lib Go.Maps SetP IntO TyM TyP TyB ShM ShP RwO Aft BitOf FwP FwQ FwR FwM FwB IntG LvM LvQ LvW LuM LgD LiM LiA LiE LiF LiI LiJ LiK LiL


set_option maxRecDepth 100000 in
set_option maxHeartbeats 4000000 in
theorem at1_c (pb bm N par : Nat) (bl : List Bx) (rb rc : Nat) (hlow : Low bl) (hR : Regs N bl) (hN : N ≤ 1048576) (h16 : bl.length ≤ 16) (r : Nat) (hr : r < 1048576) (b pl : Nat) (hb : b < bl.length) (hb' lb kb : Nat) (va : Option Addr) (vc : Nat) (w : World) (B : Body w pb bm N par bl rb rc) (hm : MapS w bm [])
  (h1 : w.cell? ⟨lb, 0, none⟩ = some (.pointer (some ⟨pb, 0, none⟩))) (h2 : w.cell? ⟨kb, 0, none⟩ = some (.int .i64 (b : Int)))
  (p0 : w.cell? ⟨hb', 0, none⟩ = some (.slice va (ofS (cutR (frB par bl b + pl) ((insAt bl b).drop pl) (endAt bl b))).length vc)) (p1 : w.cell? ⟨hb', 1, none⟩ = some (.int .i64 ((frB par bl b + pl : Nat) : Int))) (p2 : w.cell? ⟨hb', 2, none⟩ = some (.int .i64 ((frB par bl b + pl + ((insAt bl b).drop pl).length : Nat) : Int)))
  (hs : SetAt w (.slice va (ofS (cutR (frB par bl b + pl) ((insAt bl b).drop pl) (endAt bl b))).length vc) (ofS (cutR (frB par bl b + pl) ((insAt bl b).drop pl) (endAt bl b)))) :
  Calls Tryz.prog 50 #[.int .i64 (r : Int), .pointer (some ⟨hb', 0, none⟩), .pointer (some ⟨lb, 0, none⟩), .pointer (some ⟨kb, 0, none⟩)] w (FndR w bm (livB par bl b pl r)) := by
 have HRS := hid (reads_c _ (cutR (frB par bl b + pl) ((insAt bl b).drop pl) (endAt bl b)) (cut_low hR hN hb _ pl) ((frB par bl b + pl : Nat) : Int) ((frB par bl b + pl + ((insAt bl b).drop pl).length : Nat) : Int) (r : Int) (by omega) (by omega) w hs)
 have HOW := hid (fun (wx : World) => owns_c va (ofS (cutR (frB par bl b + pl) ((insAt bl b).drop pl) (endAt bl b))).length vc ((frB par bl b + pl : Nat) : Int) ((frB par bl b + pl + ((insAt bl b).drop pl).length : Nat) : Int) (r : Int) wx)
 have HEC := hid (fun (wx : World) (h : Aft w wx) => end_c pb bm N par bl rb rc hlow hR hN h16 r hr b hb wx (LiL.Body.mono B ((But.refl bm w).go h.below)) (hm.kept (h.below.block bm hm.lt)))
 have HLV := hid (livB_cut par bl b pl r)
 have HK := hid (fun (wx : World) (h : Aft w wx) => (⟨(But.refl bm w).go h.below, hm.kept (h.below.block bm hm.lt)⟩ : But bm w wx ∧ MapS wx bm []))
 have q1 := later h1; have q2 := later h2; have r0 := later p0; have r1 := later p1; have r2 := later p2
 have hw := Aft.refl w
 have HOD : Hid (decide (((frB par bl b + pl : Nat) : Int) ≤ (r : Int) ∧ (r : Int) < ((frB par bl b + pl + ((insAt bl b).drop pl).length : Nat) : Int)) = ownd (frB par bl b + pl) ((insAt bl b).drop pl).length (r : Int)) := rfl
 rw [HOD.out] at HOW
 clear hlow hR hN h16 hr hb B hm hs h1 h2 p0 p1 p2 HOD
 generalize ((frB par bl b + pl + ((insAt bl b).drop pl).length : Nat) : Int) = th at *
 generalize livB par bl b pl r = ans at *
 generalize decide ((r : Int) ∈ cutR (frB par bl b + pl) ((insAt bl b).drop pl) (endAt bl b)) = rd at *
 generalize ownd (frB par bl b + pl) ((insAt bl b).drop pl).length (r : Int) = ow at *
 generalize (ofS (cutR (frB par bl b + pl) ((insAt bl b).drop pl) (endAt bl b))).length = n1 at *
 generalize ((frB par bl b + pl : Nat) : Int) = fr at *
 go_enter Tryz.func50, Tryz.ntmps50
 go_wp2_with fail
 refine HRS.out.mono ?_
 rintro e w1 ⟨rfl, hb1⟩
 have h1 : Aft w w1 := hb1
 clear HRS hb1
 cases rd with
 | true =>
  have HA : Hid (ans = true) := by show _ = _; rw [HLV.out]; rfl
  have HF := hid (HK.out w1 h1)
  clear HLV HOW HEC HK
  go_wp2
  go_ret
  exact ⟨by rw [HA.out]; rfl, HF.out.1, HF.out.2⟩
 | false =>
  go_wp2_with fail
  refine (HOW.out w1).mono ?_
  rintro e w2 ⟨rfl, hw2⟩
  have h2 : Aft w w2 := by rw [hw2]; exact h1.alloc _
  clear HOW hw2 h1
  cases ow with
  | true =>
   have HA : Hid (ans = false) := by show _ = _; rw [HLV.out]; rfl
   have HF := hid (HK.out w2 h2)
   clear HLV HEC HK
   go_wp2
   go_ret
   exact ⟨by rw [HA.out]; rfl, HF.out.1, HF.out.2⟩
  | false =>
   have HA : Hid (ans = endB par bl b r) := by show _ = _; rw [HLV.out]; rfl
   have HE := hid (HEC.out w2 h2)
   have HB2 := hid (HK.out w2 h2).1
   clear HLV HEC HK
   generalize endB par bl b r = en at *
   go_wp2_with fail
   refine HE.out.mono ?_
   rintro e w3 ⟨rfl, hb3, hm3⟩
   have HF := hid (HB2.out.trans hb3)
   clear HE hb3 HB2 h2
   go_wp2
   go_ret
   exact ⟨by rw [HA.out]; rfl, HF.out, hm3⟩
end Go.Proofs.YtpejpnffcepdlaaGreatDoor.LiO
namespace Go.Proofs.YtpejpnffcepdlaaGreatDoor.LiP
open Go.RowKit Go.Lib Go.Maps SetP IntO TyM TyP TyB TyD ShM ShP ShA ShB ShE ShH ShI ShJ ShK RwO Aft RgZ BitOf FwP FwQ FwR FwK FwM FwB FkN IntG FdQ LvM LvQ LvW LuM LgD LgK BlkG LiM LiA LiC LiE LiF LiG LiH LiI LiJ LiK LiL LiN LiO

theorem but_below {bm B : Nat} {w w2 w3 : World} (hw : Below B w w2) (h : But bm w2 w3) (hB : B ≤ bm) (hs : B ≤ w.heap.size) : Below B w w3 := by
 have h1 : w2.grownBy w3 (some bm) := h
 exact hw.grown h1 (Nat.le_trans hs hw.size) (fun k e => by cases e; exact hB)
theorem par_of {p : Px} {f : Int} {k : Nat} {x : Fx} (hx : Has1 p f k x) : parP p f = parOf p.types x.sig := by
 unfold parP ShK.fnP
 rw [hx.eq, Int.toNat_natCast, hx.at_]
 rfl
theorem n_few {p : Px} {f : Int} {k : Nat} {x : Fx} (hs : Small p) (hx : Has1 p f k x) : parOf p.types x.sig + manyB x.blocks ≤ 90128 := by
 have := par_le hs.parts hx.sig0 hx.sig1
 have := hx.many
 omega

end Go.Proofs.YtpejpnffcepdlaaGreatDoor.LiP
namespace Go.Proofs.YtpejpnffcepdlaaGreatDoor.LiQ
open Go.RowKit Go.Lib Go.Maps SetP IntO TyM TyP TyB TyD ShM ShP ShA ShB ShE ShH ShI ShJ ShK ShL RwO Aft RgZ BitOf FwP FwQ FwR FwK FwM FwB FkN IntG FdQ LvM LvQ LvW LuM LgD LgK BlkG LiM LiA LiC LiE LiF LiG LiH LiI LiJ LiK LiL LiN LiO LiP

set_option maxRecDepth 100000 in
set_option maxHeartbeats 16000000 in
theorem at_m : AtC := by
 intro p f b pl v w hp htab hs hok _ _ _
 have hp0 := hp
 obtain ⟨vt, vf, rfl, ht, hf0⟩ := hp
 obtain ⟨W, hW⟩ : ∃ W, W = (w.alloc (.cells #[vt, vf] 27)).alloc (.cells #[.int .i64 b] 3) := ⟨_, rfl⟩
 have hbW : Below w.heap.size w W := by rw [hW]; exact ((Below.refl _ w).alloc (Nat.le_refl _) _).alloc (by simp) _
 have k1 : W.heap[w.heap.size]? = some (.cells #[vt, vf] 27 (0, 0)) := by
  rw [hW]
  exact ((alloc_below _ _).block _ (by simp)).trans (TyD.alloc_new _ _)
 have k2 : W.heap[w.heap.size + 1]? = some (.cells #[.int .i64 b] 3 (0, 0)) := by
  rw [hW]
  have := TyD.alloc_new (w.alloc (.cells #[vt, vf] 27)) (.cells #[.int .i64 b] 3)
  rwa [World.size_alloc] at this
 have HNO := hid (fun h => find_no p f b pl _ W (hp0.below hbW) (htab.on hbW) hs hok h)
 have HYE := hid (fun (k : Nat) (x : Fx) h hx => find_yes p f b pl k x _ W (hp0.below hbW) (htab.on hbW) hs hok h hx)
 have HFN := hid (fun (k : Nat) (x : Fx) (h1 : Has1 p f k x) => fn_later (hf0.below fnStays hbW) h1)
 have HTAB := hid (fun (wx : World) (h : Aft W wx) => (htab.on hbW).on h.below)
 obtain ⟨ta, tc, rfl⟩ := ht.slice
 obtain ⟨fa, fc, rfl, _⟩ := hf0.slice
 have l0 := later_cells k1 0 _ rfl W (Aft.refl _); have l1 := later_cells k1 1 _ rfl W (Aft.refl _)
 have l1A := later_cells k1 1 _ rfl
 have m0 := later_cells k2 0 _ rfl W (Aft.refl _)
 have HBW := hid hbW
 have HW := hid hW
 have HK2 := hid k2
 have HOK := hid hok
 have HS := hid hs
 clear ht hf0 hbW hW k1 k2 hp0 hs htab hok
 by_cases hz : atE p f b pl = 0
 rotate_left
 ·have HN := hid (HNO.out hz)
  have HA : Hid (liveA p f b pl = []) := by show _ = _; unfold liveA; rw [if_neg hz]
  have e0 : (atE p f b pl != 0) = true := by simpa using hz
  clear hz HNO HYE HFN HTAB HK2 HOK HS
  generalize liveA p f b pl = la at *
  generalize atE p f b pl = fe at *
  generalize p.types.length = n1 at *
  generalize p.funcs.length = n2 at *
  go_enter Tryz.func21, Tryz.ntmps21
  go_upto_region 1 with fail
  rw [← HW.out]
  go_wp2_with fail
  refine HN.out.mono ?_
  rintro e w1 ⟨rfl, hb1⟩
  have HE := hid (HBW.out.trans (((hb1.mono HBW.out.size)).trans ((alloc_below w1 (.cells #[.pointer none] 91)).mono (Nat.le_trans HBW.out.size hb1.size))))
  clear HN hb1
  go_wp2
  go_ret2
  exact ⟨_, rfl, by rw [HA.out]; exact ints_none _, HE.out⟩
 obtain ⟨hzb, p0, p1⟩ := atE_zero hz
 obtain ⟨hz0, b0, b1⟩ := ask_zero hzb
 obtain ⟨k, x, hx⟩ := has1 hz0
 obtain ⟨hlow, hl0, hl16⟩ := low_fn HOK.out hz0
 have hbp := fn_blocks hx
 obtain ⟨hR, hBF⟩ := blk_facts HOK.out hz0 hx
 obtain ⟨j, rfl⟩ : ∃ j : Nat, b = j := ⟨b.toNat, by omega⟩
 obtain ⟨q, rfl⟩ : ∃ q : Nat, pl = q := ⟨pl.toNat, by omega⟩
 have HA : Hid (liveA p f (j : Int) (q : Int) = ints (thoseL (livB (parOf p.types x.sig) x.blocks j q) (parOf p.types x.sig + manyB x.blocks))) := by
  show _ = _
  unfold liveA
  rw [if_pos hz, par_of hx, cnt_at hx, hbp, Int.toNat_natCast, Int.toNat_natCast]
  rfl
 have HY := hid (HYE.out k x hz hx)
 have HNF := hid (n_few HS.out hx)
 obtain ⟨fb, foff, fcap, ao, bc, he, d0, d1, hbl0⟩ := HFN.out k x hx
 cases he
 have hkl := hx.lt
 have hke := hx.eq
 have hkn : (k : Int) < p.funcs.length := by omega
 rw [hbp] at hlow hl0 hl16 b1 p1
 have hjl : j < x.blocks.length := by omega
 have HQ : Hid (q ≤ (insAt x.blocks j).length) := by
  have e : insN x.blocks (j : Int) = (insAt x.blocks j).length := by unfold insN insAt; rw [Int.toNat_natCast]
  rw [e] at p1
  show _ ≤ _
  omega
 have HLOW := hid hlow
 have HL0 := hid hl0
 have H16 := hid hl16
 have HR := hid hR
 have HBF := hid (hBF j hjl)
 have HJ := hid hjl
 have HBL := hid hbl0
 rw [hz]
 clear hz hzb hz0 HNO HYE hx hlow hl0 hl16 hbp hR hBF b0 b1 p0 p1 HOK HS HFN hbl0
 generalize liveA p f (j : Int) (q : Int) = la at *
 subst hke
 obtain ⟨sg, bl⟩ := x
 simp only at *
 have HNE : Hid (parOf p.types sg + manyB bl = parOf p.types sg + manyB bl) := rfl
 generalize parOf p.types sg = par at *
 obtain ⟨N, hN⟩ : ∃ N, par + manyB bl = N := ⟨_, rfl⟩
 have HN := hid hN
 rw [hN] at HA HY HNF HR
 clear hN HNE
 generalize p.types.length = n1 at *
 generalize hn2 : p.funcs.length = n2 at *
 clear hn2
 go_enter Tryz.func21, Tryz.ntmps21
 go_upto_region 1 with fail
 rw [← HW.out]
 go_wp2_with fail
 refine HY.out.mono ?_
 rintro e w1 ⟨W0, pb, bm, vo, els, rfl, hbW0, hst, hel⟩
 obtain ⟨hm1, rb, rc, hB1⟩ := body_of hst hel HL0.out
 obtain ⟨w2, hw2⟩ : ∃ w2, w2 = w1.alloc (.cells #[.pointer (some ⟨pb, 0, none⟩)] 91) := ⟨_, rfl⟩
 obtain ⟨lb, hlb⟩ : ∃ lb, lb = w1.heap.size := ⟨_, rfl⟩
 obtain ⟨kb, hkb⟩ : ∃ kb, kb = w.heap.size + 1 := ⟨_, rfl⟩
 have hb2 : Below w1.heap.size w1 w2 := by rw [hw2]; exact alloc_below _ _
 have k3 : w2.heap[lb]? = some (.cells #[.pointer (some ⟨pb, 0, none⟩)] 91 (0, 0)) := by rw [hw2, hlb]; exact TyD.alloc_new _ _
 have hB2 := LiL.Body.mono hB1 ((But.refl bm w1).go hb2)
 have hm2 := hm1.kept (hb2.block bm hm1.lt)
 have hA1 : Aft W w1 := Aft.trans hbW0 hst.bel
 have hA2 : Aft W w2 := hA1.go hb2
 have k4 := later_heap HK2.out w2 hA2
 have hWs : W.heap.size = w.heap.size + 1 + 1 := by rw [HW.out]; simp
 have hbm : W.heap.size ≤ bm := Nat.le_trans hbW0.size hst.hm
 have hbml : bm < w1.heap.size := (Array.getElem?_eq_some_iff.1 hst.map).1
 rw [← hkb] at k4
 have HX := hid (show lb ≠ bm ∧ kb ≠ bm ∧ w.heap.size ≤ bm ∧ bm < w2.heap.size from ⟨by omega, by omega, by omega, by have := hb2.size; omega⟩)
 have s0 := later_cells k3 0 _ rfl
 have s1 := later_cells k4 0 _ rfl
 have r1 := later (l1A w2 hA2)
 have d2 := later (d1 w2 hA2)
 obtain ⟨gb, goff, xa, xc, rfl, y0, hyi, y1, y2, y3, y4⟩ := blk_ins HBL.out HJ.out
 have x0 := later (y0 w2 hA2); have x1 := later (y1 w2 hA2); have x2 := later (y2 w2 hA2); have x3 := later (y3 w2 hA2); have x4 := later (y4 w2 hA2)
 obtain ⟨ra, rn, na, nn, pa, pn, b0, b1, b2, b3, b4, bs, bi, bp⟩ := hB2.each j HJ.out
 have f1 := later (b1 w2 (But.refl bm w2))
 have c1 := later (hB2.row w2 (But.refl bm w2))
 have hjn : (j : Int) < (bl.length : Int) := by have := HJ.out; omega
 have HFB : Hid (frB par bl j ≤ 90128) := by
  show _ ≤ _
  have h1 := manyB_le bl j
  have := HN.out; have := HNF.out
  unfold frB
  omega
 have HCUT := hid (fun (wx : World) (h : Aft w2 wx) => show Calls Tryz.prog 48 #[.agg #[.slice xa (insAt bl j).length xc, .int .u8 (endAt bl j).kind, .int .i64 (endAt bl j).a, .int .i64 (endAt bl j).to, .int .i64 (endAt bl j).els], .int .i64 ((frB par bl j : Nat) : Int), .int .i64 (q : Int)] wx (PartR wx (frB par bl j + q) ((insAt bl j).drop q).length (cutR (frB par bl j + q) ((insAt bl j).drop q) (endAt bl j))) from
  cut_c ⟨insAt bl j, endAt bl j⟩ (.slice xa (insAt bl j).length xc) (frB par bl j) q wx (hyi.below insStays (hA2.trans h).below) (HTAB.out _ (hA2.trans h)) HQ.out HBF.out.1 HBF.out.2.1 HBF.out.2.2 (by have := HFB.out; omega))
 have HTH := hid (fun (w5 : World) (h5 : Aft w2 w5) (hb : Nat) (hb2 : hb ≠ bm) (ua : Option Addr) (uc : Nat) (k5 : w5.heap[hb]? = some (.cells #[.slice ua (ofS (cutR (frB par bl j + q) ((insAt bl j).drop q) (endAt bl j))).length uc, .int .i64 ((frB par bl j + q : Nat) : Int), .int .i64 ((frB par bl j + q + ((insAt bl j).drop q).length : Nat) : Int)] 97 (0, 0))) (hu : NewSt w2.heap.size w5 (.slice ua (ofS (cutR (frB par bl j + q) ((insAt bl j).drop q) (endAt bl j))).length uc) (ofS (cutR (frB par bl j + q) ((insAt bl j).drop q) (endAt bl j)))) =>
  those_c pb bm N par bl rb rc (by have := HNF.out; omega) (livB par bl j q) 50 (enters_of Tryz.func50 (by kernel_rfl) rfl) #[.pointer (some ⟨hb, 0, none⟩), .pointer (some ⟨lb, 0, none⟩), .pointer (some ⟨kb, 0, none⟩)] w5 (LiL.Body.mono hB2 ((But.refl bm w2).go h5.below)) (hm2.kept (h5.below.block bm hm2.lt)) (fun i wx hi hbt hm =>
   at1_c pb bm N par bl rb rc HLOW.out HR.out (by have := HNF.out; omega) H16.out i (by have := HNF.out; omega) j q HJ.out hb lb kb ua uc wx (LiL.Body.mono hB2 (((But.refl bm w2).go h5.below).trans hbt)) hm
    (later_cells (hbt.heap (later_heap k3 w5 h5) HX.out.1) 0 _ rfl wx (Aft.refl _)) (later_cells (hbt.heap (later_heap k4 w5 h5) HX.out.2.1) 0 _ rfl wx (Aft.refl _))
    (later_cells (hbt.heap k5 hb2) 0 _ rfl wx (Aft.refl _)) (later_cells (hbt.heap k5 hb2) 1 _ rfl wx (Aft.refl _)) (later_cells (hbt.heap k5 hb2) 2 _ rfl wx (Aft.refl _))
    (NewSt.at (owns_map hu (hm2.kept (h5.below.block bm hm2.lt)) hbt))))
 have HE := hid (fun (w5 w3 : World) (h5 : Aft w2 w5) (h : But bm w5 w3) => but_below ((HBW.out.trans (hA2.below.mono HBW.out.size)).trans (h5.below.mono (Nat.le_trans HBW.out.size hA2.size))) h HX.out.2.2.1 (Nat.le_refl _))
 have HL := hid (fun (B : Nat) (u : Value) (w3 : World) (h : w3.ownsRow B 3 1 u (ints (thoseL (livB par bl j q) N)).length (intVals (ints (thoseL (livB par bl j q) N)))) => intsAt_of_owns h (by have := those_len (livB par bl j q) N; have := HNF.out; omega))
 have HW2 := hid hw2
 have HLB := hid hlb
 have HKB := hid hkb
 clear HY hbW0 hst hel hm1 hB1 hw2 hlb hkb hb2 k3 hB2 hm2 hA1 hA2 k4 hWs hbm hbml m0 l0 l1 l1A d0 d1 y0 y1 y2 y3 y4 hyi b0 b1 b2 b3 b4 bs bi bp HK2
 rw [← HA.out] at HL HTH
 go_upto_region 2 with fail
 rw [← HW2.out, ← HLB.out, ← HKB.out]
 unfold PartR at HCUT
 have hw := Aft.refl w2
 have hd := hw.drew
 have HSZ := hid (show w2.drew.heap.size = w2.heap.size from rfl)
 have HC1 := hid (HCUT.out w2.drew hd)
 have HC2 := hid (HCUT.out ((w2.alloc (.cells #[.slice none 0 0, .int .i64 0, .int .i64 0] 97)).drew) ((hw.alloc _).drew))
 clear HCUT
 generalize cutR (frB par bl j + q) ((insAt bl j).drop q) (endAt bl j) = cl at *
 generalize hth : ((frB par bl j + q + ((insAt bl j).drop q).length : Nat) : Int) = th at *
 clear hth
 generalize hfq : ((frB par bl j + q : Nat) : Int) = fq at *
 clear hfq
 go_upto_region 4 with fail
 refine wp_region_noPanic ?_
 refine wp_region_Z (S := (fun w' => Aft w2 w')) (Z := []) (by kernel_rfl) ?_ (fun hHeld => ?_)
 ·exact hd
 refine zP 0 rfl ?_
 refine zT 1 rfl ?_
 refine zP 2 rfl ?_
 refine zP 3 rfl ?_
 refine zP 4 rfl ?_
 refine zT 5 rfl ?_
 refine zT 6 rfl ?_
 refine zP 7 rfl ?_
 refine zT 8 rfl ?_
 refine zT 9 rfl ?_
 refine zP 10 rfl ?_
 refine zP 11 rfl ?_
 refine zT 12 rfl ?_
 refine zT 13 rfl ?_
 refine zP 14 rfl ?_
 refine zP 15 rfl ?_
 refine zP 16 rfl ?_
 refine zT 17 rfl ?_
 refine zP 18 rfl ?_
 refine zB 19 20 rfl rfl (fun K hK => ?_) (fun K hK => ?_)
 ·go_simp
  (go_at_call 48; (with_reducible refine HC1.out.mono ?_); rintro e wx ⟨u, rfl, hu, hbx⟩)
  have hax : Aft w2 wx := hd.go hbx
  refine hK.out _ _ ?_ (fun hHeld => ?_)
  ·exact hax
  clear hK K
  refine zC 20 rfl (fun K hK => ?_)
  go_simp
  refine hK.out _ _ ?_ (fun hHeld => ?_)
  ·exact hax.alloc _
  clear hK K
  obtain ⟨wa, hwa⟩ : ∃ wa, wa = wx.alloc (.cells #[.slice none 0 0, .int .i64 0, .int .i64 0] 97) := ⟨_, rfl⟩
  obtain ⟨hb, hhb⟩ : ∃ hb, hb = wx.heap.size := ⟨_, rfl⟩
  have kA : wa.heap[hb]? = some (.cells #[.slice none 0 0, .int .i64 0, .int .i64 0] 97 (0, 0)) := by rw [hwa, hhb]; exact TyD.alloc_new _ _
  obtain ⟨ua, uc, rfl⟩ := own_form hu
  have v0 := later_cells kA 0 _ rfl wa (Aft.refl _); have v1 := later_cells kA 1 _ rfl wa (Aft.refl _); have v2 := later_cells kA 2 _ rfl wa (Aft.refl _)
  have g0 : wa.frozen? ⟨hb, 0, none⟩ = false := by unfold World.frozen?; rw [kA]; simp
  have g1 : wa.frozen? ⟨hb, 1, none⟩ = false := by unfold World.frozen?; rw [kA]; simp
  have g2 : wa.frozen? ⟨hb, 2, none⟩ = false := by unfold World.frozen?; rw [kA]; simp
  obtain ⟨W3, hW3, k3, hB3⟩ := set3_world wa hb 97 _ _ _ (.slice ua (ofS cl).length uc) (.int .i64 fq) (.int .i64 th) kA
  have hwb : Below wx.heap.size wx wa := by rw [hwa]; exact alloc_below _ _
  have hAF : Aft w2 W3 := hB3 _ _ (by rw [hwa]; exact hax.alloc _) (by rw [hhb]; exact hax.size)
  have hU5 : NewSt w2.heap.size W3 (.slice ua (ofS cl).length uc) (ofS cl) := ownsRow_below hu (hB3 _ _ hwb (by rw [hhb]; exact Nat.le_refl _))
  have hbs : w2.heap.size ≤ hb := by rw [hhb]; exact hax.size
  rw [← hwa, ← hhb]
  clear hwa hhb hax hwb hbx
  have HNB : Hid (hb ≠ bm) := by have := HX.out.2.2.2; show _ ≠ _; omega
  have HT2 := hid (HTH.out W3 hAF hb HNB.out ua uc k3 hU5)
  have HE2 := hid (fun (w3 : World) h => HE.out W3 w3 hAF h)
  have HAF := hid hAF
  have HW3 := hid hW3
  have t0 := s0 W3 hAF
  clear hW3 k3 hB3 hAF hU5 kA hu HTH HE s0 s1 r1 d2 x0 x1 x2 x3 x4 f1 c1 HC1 HC2
  generalize (ofS cl).length = cn at *
  refine zC 21 rfl (fun K hK => ?_)
  go_simp
  refine hK.out _ _ ?_ (fun hHeld => ?_)
  ·rw [← HW3.out]
   exact HAF.out
  clear hK K
  refine wpAnyZ_done (by kernel_rfl) ?_ _
  refine NoPanic.normal ?_
  rw [← HW3.out]
  clear v0 v1 v2 g0 g1 g2 hd hw
  go_wp2_with fail
  refine HT2.out.mono ?_
  rintro e w3 ⟨u3, rfl, hu3, hb3, _⟩
  have HI := hid (HL.out _ u3 w3 hu3)
  have HEE := hid (HE2.out w3 hb3)
  obtain ⟨va, vc, rfl⟩ := own_form hu3
  clear HT2 hu3 hb3 HL HE2 t0
  go_wp2
  go_ret2
  exact ⟨_, rfl, HI.out, HEE.out⟩
 ·go_simp
  refine hK.out _ _ ?_ (fun hHeld => ?_)
  ·first | exact (hw.alloc _).drew | exact hd.alloc _
  clear hK K
  refine zC 19 rfl (fun K hK => ?_)
  go_simp
  (go_at_call 48; (with_reducible refine HC2.out.mono ?_); rintro e wa ⟨u, rfl, hu, hbx⟩)
  have hax : Aft w2 wa := ((hw.alloc _).drew).go hbx
  refine hK.out _ _ ?_ (fun hHeld => ?_)
  ·exact hax
  clear hK K
  obtain ⟨hb, hhb⟩ : ∃ hb, hb = w2.heap.size := ⟨_, rfl⟩
  have kA : wa.heap[hb]? = some (.cells #[.slice none 0 0, .int .i64 0, .int .i64 0] 97 (0, 0)) := by
   have h1 : ((w2.alloc (.cells #[.slice none 0 0, .int .i64 0, .int .i64 0] 97)).drew).heap[w2.heap.size]? = _ := TyD.alloc_new w2 (.cells #[.slice none 0 0, .int .i64 0, .int .i64 0] 97)
   rw [hhb]
   exact (hbx.block _ (by show _ < (w2.alloc _).heap.size; rw [World.size_alloc]; omega)).trans h1
  have hba : hb < ((w2.alloc (.cells #[.slice none 0 0, .int .i64 0, .int .i64 0] 97)).drew).heap.size := by show _ < (w2.alloc _).heap.size; rw [World.size_alloc]; omega
  obtain ⟨ua, uc, rfl⟩ := own_form hu
  have v0 := later_cells kA 0 _ rfl wa (Aft.refl _); have v1 := later_cells kA 1 _ rfl wa (Aft.refl _); have v2 := later_cells kA 2 _ rfl wa (Aft.refl _)
  have g0 : wa.frozen? ⟨hb, 0, none⟩ = false := by unfold World.frozen?; rw [kA]; simp
  have g1 : wa.frozen? ⟨hb, 1, none⟩ = false := by unfold World.frozen?; rw [kA]; simp
  have g2 : wa.frozen? ⟨hb, 2, none⟩ = false := by unfold World.frozen?; rw [kA]; simp
  obtain ⟨W3, hW3, k3, hB3⟩ := set3_world wa hb 97 _ _ _ (.slice ua (ofS cl).length uc) (.int .i64 fq) (.int .i64 th) kA
  have hAF : Aft w2 W3 := hB3 _ _ hax (by rw [hhb]; exact Nat.le_refl _)
  have hU5 : NewSt w2.heap.size W3 (.slice ua (ofS cl).length uc) (ofS cl) := by
   rw [hW3]
   exact newSt_base (newSt_set (newSt_set (newSt_set hu hba) hba) hba) (by omega)
  have hbs : w2.heap.size ≤ hb := by rw [hhb]; exact Nat.le_refl _
  rw [← hhb]
  clear hhb hax hbx hba
  have HNB : Hid (hb ≠ bm) := by have := HX.out.2.2.2; show _ ≠ _; omega
  have HT2 := hid (HTH.out W3 hAF hb HNB.out ua uc k3 hU5)
  have HE2 := hid (fun (w3 : World) h => HE.out W3 w3 hAF h)
  have HAF := hid hAF
  have HW3 := hid hW3
  have t0 := s0 W3 hAF
  clear hW3 k3 hB3 hAF hU5 kA hu HTH HE s0 s1 r1 d2 x0 x1 x2 x3 x4 f1 c1 HC1 HC2
  generalize (ofS cl).length = cn at *
  refine zC 21 rfl (fun K hK => ?_)
  go_simp
  refine hK.out _ _ ?_ (fun hHeld => ?_)
  ·rw [← HW3.out]
   exact HAF.out
  clear hK K
  refine wpAnyZ_done (by kernel_rfl) ?_ _
  refine NoPanic.normal ?_
  rw [← HW3.out]
  clear v0 v1 v2 g0 g1 g2 hd hw
  go_wp2_with fail
  refine HT2.out.mono ?_
  rintro e w3 ⟨u3, rfl, hu3, hb3, _⟩
  have HI := hid (HL.out _ u3 w3 hu3)
  have HEE := hid (HE2.out w3 hb3)
  obtain ⟨va, vc, rfl⟩ := own_form hu3
  clear HT2 hu3 hb3 HL HE2 t0
  go_wp2
  go_ret2
  exact ⟨_, rfl, HI.out, HEE.out⟩
end Go.Proofs.YtpejpnffcepdlaaGreatDoor.LiQ
