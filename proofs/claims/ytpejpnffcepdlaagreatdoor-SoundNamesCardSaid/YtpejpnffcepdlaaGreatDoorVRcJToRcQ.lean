/- Walk over the reader's has: its loops. The reader's has, whole. An instruction as the reader makes it: its block and the result's, ahead of has and behind it. Walk over the reader's instruction. The reader's instruction, whole. -/
import Derived.Test.YtpejpnffcepdlaaGreatDoorVRgZToRgY
import Derived.Test.YtpejpnffcepdlaaGreatDoorVRcTToRcI
import Derived.Deep.Cut
import Derived.Test.YtpejpnffcepdlaaGreatDoorVRcO
import Derived.Test.YtpejpnffcepdlaaGreatDoorVShAToShAn
set_option maxRecDepth 100000
set_option maxHeartbeats 16000000
namespace Go.Proofs.YtpejpnffcepdlaaGreatDoor.RcJ
open Go.RowKit Go.Lib TyM TyP ShM ShP ShB IntO SetP LxM LxJ LxY RwO RdM RdN RdV RdB RdP Fresh Aft RgZ RcP RcA RcB RcC RcD RcT RcN RcU RcH RcI

variable {W:World} {b:Nat} {L:List Ln} {ws:Ln} {reg:Int} {tv:Value} {w:World}

theorem pairs_none {x:ByteArray} {l:Ln} (h:markC 114 l=none):pairsO (x :: l)=none:=by
 cases l with
 | nil=>rfl
 | cons y m =>
  rw [markC_cons] at h
  split at h
  ·cases h
  ·rename_i h2
   unfold pairsO
   rw [if_neg (fun h=>h2 h.2)]
theorem pairs_some {x:ByteArray} {l m:Ln} {q:Int} (h1:(mkN x 98).2=0) (h:markC 114 l=some (q,m)):∃ y,l=y :: m∧pairsO (x :: l)=(pairsO m).map (((mkN x 98).1,q) :: ·):=by
 cases l with
 | nil=>cases h
 | cons y m' =>
  rw [markC_cons] at h
  split at h
  ·rename_i h2
   cases h
   refine ⟨y,rfl,?_⟩
   rw [pairsO,if_pos ⟨h1,h2⟩]
  ·cases h
theorem has_none00 {bx:Nat} {op typ:Int} (h:HasS W b L ws reg tv w bx (ix0 op typ) (.slice none 0 0) (.slice none 0 0) w) (htab:ShA.Tab W) (h0:0≤op) (h22:op≤22) (fA:hasAB op=false) (fB:twoB op=false) {qn:Int} {l3:Ln} (hN:numC op ws=some (qn,l3)) (fR:argsB op=false) :
  Calls Tryz.prog 208 #[.pointer (some ⟨b,0,none⟩),.pointer (some ⟨bx,0,none⟩)] w (HasO W b L l3 reg tv bx ⟨op,typ,0,0,qn,[],[]⟩ w):=by
 have HFA:=hid fA
 clear fA
 have HFB:=hid fB
 clear fB
 have HN:=hid hN
 clear hN
 have HFR:=hid fR
 clear fR
 have hA1:=h.on (alloc_below w (.cells #[.int .i64 2] 3))
 have HUS:=hid (ShU.uses_calls (askX op) (.slice (some ⟨w.heap.size,0,none⟩) 1 1) (.slice none 0 0) (w.alloc (.cells #[.int .i64 2] 3)) h0 (by show op≤255;omega) (htab.on (h.rdr.be.trans ((alloc_below w _).mono h.rdr.be.size))) (ints_one (cell_new _ _ _ _ rfl) (size_new _ _ _ rfl)) (by show 1≤1000;omega) ⟨_,_,_,rfl⟩)
 rw [show ixV (askX op) (.slice (some ⟨w.heap.size,0,none⟩) 1 1) (.slice none 0 0)=.agg #[.int .u8 op,.int .i64 0,.int .i64 0,.int .i64 1,.int .i64 0,.slice (some ⟨w.heap.size,0,none⟩) 1 1,.slice none 0 0] from rfl] at HUS
 unfold OwnI at HUS
 have HA1:=hid hA1
 have f0:w.cell? ⟨bx,0,none⟩=some (.int .u8 op):=h.facts.1.1
 have hbx:=h.lt
 clear h hA1 htab h0 h22
 go_enter Tryz.func208,Tryz.ntmps208
 go_wp2_with fail
 refine HUS.out.mono ?_
 rintro e w1 ⟨uv,un,rfl,huo,hb1⟩
 have hun:un=(usesOf (askX op)).length:=by have:=huo.1;rw [intVals_length] at this;omega
 subst hun
 have HS1:=hid (HA1.out.on hb1)
 have HQ1:Hid (AskS w op uv (.slice none 0 0) (.slice none 0 0) w1):=⟨owns_base huo (by simp),(fun g h1 h2=>by cases h2),(fun g h1 h2=>by cases h2)⟩
 obtain ⟨ua,uc,rfl⟩:=own_form huo
 clear huo hb1 HUS HA1 f0
 go_wp2_with fail
 have HC:=hid (contains_calls _ _ 0 w1 HQ1.out.ints)
 rw [ask_A,HFA.out] at HC
 refine HC.out.mono ?_
 rintro e w' ⟨rfl,rfl⟩
 clear HC
 have HF0:Hid (w1.cell? ⟨bx,0,none⟩=some (.int .u8 op)):=HS1.out.facts.1.1
 go_wp2_with fail
 have HC:=hid (contains_calls _ _ 1 w1 HQ1.out.ints)
 rw [ask_B,HFB.out] at HC
 refine HC.out.mono ?_
 rintro e w' ⟨rfl,rfl⟩
 clear HC
 have f0:=HF0.out
 go_wp2_with fail
 clear f0
 refine (number_yes HS1.out.rdr HN.out).mono ?_
 rintro e w2 ⟨rfl,hr,hk⟩
 have hs:=HS1.out.go hr hk
 have hq:=HQ1.out.go HS1.out.rdr hk
 have g4:=hs.facts.1.2.2.2.2.1
 have gz4:=hs.facts.2 4
 obtain ⟨w3,hX⟩:∃ X,X=w2.setCell ⟨bx,4,none⟩ (.int .i64 qn):=⟨_,rfl⟩
 have HX:=hid hX
 have HSM:Hid (HasS W b L l3 reg tv w bx ⟨op,typ,0,0,qn,[],[]⟩ (.slice none 0 0) (.slice none 0 0) w3):=by show HasS _ _ _ _ _ _ _ _ _ _ _ _;rw [hX];exact hs.set (hs.box.setN qn)
 have HQM:Hid (AskS w op (.slice ua (usesOf (askX op)).length uc) (.slice none 0 0) (.slice none 0 0) w3):=by show AskS _ _ _ _ _ _;rw [hX];exact hq.set hs.box _
 have HL3:=hid hr.fw.1
 clear hr hk hs hq hX HS1 HQ1 HF0
 go_wp2_with fail
 rw [← HX.out]
 clear g4 gz4 HX
 go_loopg [] 0 (fun gk wr=>wr=w3)
 case atStart=>rfl
 case round =>
  subst hrel
  go_wp2_with fail
  have HC:=hid (contains_calls _ _ 2 _ HQM.out.ints)
  rw [ask_R,HFR.out] at HC
  refine HC.out.mono ?_
  rintro e w' ⟨rfl,rfl⟩
  clear HC
  go_wp2
  go_end0
  exact ⟨rfl,_,_,HSM.out⟩
theorem has_args00W {bx:Nat} {op typ:Int} (h:HasS W b L ws reg tv w bx (ix0 op typ) (.slice none 0 0) (.slice none 0 0) w) (htab:ShA.Tab W) (h0:0≤op) (h22:op≤22) {Q:Ending→World→Prop} (fA:hasAB op=false) (fB:twoB op=false) {qn:Int} {l3:Ln} (hN:numC op ws=some (qn,l3)) (fR:argsB op=true) (ho:(op == 22)=false) (hy:∀ r,marksO 114 l3=some r→∀ e w',HasO W b L [] reg tv bx ⟨op,typ,0,0,qn,r,[]⟩ w e w'→Q e w') (hn:marksO 114 l3=none→∀ e w',Out2 b bx w e w'→Q e w') :
  Calls Tryz.prog 208 #[.pointer (some ⟨b,0,none⟩),.pointer (some ⟨bx,0,none⟩)] w (Q):=by
 have HY:=hid hy
 have HNN:=hid hn
 clear hy hn
 have HFA:=hid fA
 clear fA
 have HFB:=hid fB
 clear fB
 have HN:=hid hN
 clear hN
 have HFR:=hid fR
 clear fR
 have HOP:=hid ho
 clear ho
 have hA1:=h.on (alloc_below w (.cells #[.int .i64 2] 3))
 have HUS:=hid (ShU.uses_calls (askX op) (.slice (some ⟨w.heap.size,0,none⟩) 1 1) (.slice none 0 0) (w.alloc (.cells #[.int .i64 2] 3)) h0 (by show op≤255;omega) (htab.on (h.rdr.be.trans ((alloc_below w _).mono h.rdr.be.size))) (ints_one (cell_new _ _ _ _ rfl) (size_new _ _ _ rfl)) (by show 1≤1000;omega) ⟨_,_,_,rfl⟩)
 rw [show ixV (askX op) (.slice (some ⟨w.heap.size,0,none⟩) 1 1) (.slice none 0 0)=.agg #[.int .u8 op,.int .i64 0,.int .i64 0,.int .i64 1,.int .i64 0,.slice (some ⟨w.heap.size,0,none⟩) 1 1,.slice none 0 0] from rfl] at HUS
 unfold OwnI at HUS
 have HA1:=hid hA1
 have f0:w.cell? ⟨bx,0,none⟩=some (.int .u8 op):=h.facts.1.1
 have hbx:=h.lt
 clear h hA1 htab h0 h22
 go_enter Tryz.func208,Tryz.ntmps208
 go_wp2_with fail
 refine HUS.out.mono ?_
 rintro e w1 ⟨uv,un,rfl,huo,hb1⟩
 have hun:un=(usesOf (askX op)).length:=by have:=huo.1;rw [intVals_length] at this;omega
 subst hun
 have HS1:=hid (HA1.out.on hb1)
 have HQ1:Hid (AskS w op uv (.slice none 0 0) (.slice none 0 0) w1):=⟨owns_base huo (by simp),(fun g h1 h2=>by cases h2),(fun g h1 h2=>by cases h2)⟩
 obtain ⟨ua,uc,rfl⟩:=own_form huo
 clear huo hb1 HUS HA1 f0
 go_wp2_with fail
 have HC:=hid (contains_calls _ _ 0 w1 HQ1.out.ints)
 rw [ask_A,HFA.out] at HC
 refine HC.out.mono ?_
 rintro e w' ⟨rfl,rfl⟩
 clear HC
 have HF0:Hid (w1.cell? ⟨bx,0,none⟩=some (.int .u8 op)):=HS1.out.facts.1.1
 go_wp2_with fail
 have HC:=hid (contains_calls _ _ 1 w1 HQ1.out.ints)
 rw [ask_B,HFB.out] at HC
 refine HC.out.mono ?_
 rintro e w' ⟨rfl,rfl⟩
 clear HC
 have f0:=HF0.out
 go_wp2_with fail
 clear f0
 refine (number_yes HS1.out.rdr HN.out).mono ?_
 rintro e w2 ⟨rfl,hr,hk⟩
 have hs:=HS1.out.go hr hk
 have hq:=HQ1.out.go HS1.out.rdr hk
 have g4:=hs.facts.1.2.2.2.2.1
 have gz4:=hs.facts.2 4
 obtain ⟨w3,hX⟩:∃ X,X=w2.setCell ⟨bx,4,none⟩ (.int .i64 qn):=⟨_,rfl⟩
 have HX:=hid hX
 have HSM:Hid (HasS W b L l3 reg tv w bx ⟨op,typ,0,0,qn,[],[]⟩ (.slice none 0 0) (.slice none 0 0) w3):=by show HasS _ _ _ _ _ _ _ _ _ _ _ _;rw [hX];exact hs.set (hs.box.setN qn)
 have HQM:Hid (AskS w op (.slice ua (usesOf (askX op)).length uc) (.slice none 0 0) (.slice none 0 0) w3):=by show AskS _ _ _ _ _ _;rw [hX];exact hq.set hs.box _
 have HL3:=hid hr.fw.1
 clear hr hk hs hq hX HS1 HQ1 HF0
 go_wp2_with fail
 rw [← HX.out]
 clear g4 gz4 HX
 go_loopg [] l3.length (fun gk wr=>∃ (k:Nat) (xs:List Int) (va:Value),k+gk=l3.length∧xs.length=k∧marksO 114 l3=(marksO 114 (l3.drop k)).map (xs ++ ·)∧HasS W b L (l3.drop k) reg tv w bx ⟨op,typ,0,0,qn,xs,[]⟩ va (.slice none 0 0) wr∧AskS w op (.slice ua (usesOf (askX op)).length uc) va (.slice none 0 0) wr)
 case atStart=>exact ⟨0,[],_,by omega,rfl,by simp,HSM.out,HQM.out⟩
 case round =>
  obtain ⟨k,xs,va,hk,hxk,hm,hs,hq⟩:=hrel
  clear HSM HQM
  obtain ⟨pa,pc,hpa0⟩:=own_form hs.box.owa
  have hpa:va=.slice pa xs.length pc:=by simpa using hpa0
  clear hpa0
  subst hpa
  have HK:=hid hk
  have HXK:=hid hxk
  obtain ⟨la,lc,wa,wc,c0,c1,c2,c3,hfz,_,_,hb,_,hwn⟩:=hs.rdr.facts
  have f0:wr.cell? ⟨bx,0,none⟩=some (.int .u8 op):=hs.facts.1.1
  have hop:=HOP.out
  clear c0 c2 c3 hfz hk hxk
  cases hd:l3.drop k with
  | nil =>
   rw [hd] at hm c1 hs
   have HQQ:=hid (HY.out xs (by rw [hm];simp [marksO]))
   have HS1:=hid hs
   have HQ1:=hid hq
   clear hd hs hq hm
   go_wp2_with fail
   have HC:=hid (contains_calls _ _ 2 wr HQ1.out.ints)
   rw [ask_R,HFR.out] at HC
   refine HC.out.mono ?_
   rintro e w' ⟨rfl,rfl⟩
   clear HC
   go_wp2
   go_end0
   exact HQQ.out _ _ ⟨rfl,_,_,HS1.out⟩
  | cons x l =>
   have hlt:k < l3.length:=by
    have:=congrArg List.length hd
    rw [List.length_drop] at this
    simp at this
    omega
   have HLT:=hid hlt
   have h0:(0:Int) < ((x :: l).length:Int):=by simp only [List.length_cons];omega
   clear hlt
   have HDK:Hid (l3.drop (k+1)=l):=by
    show List.drop _ _=_
    have:=List.drop_drop (i:=1) (j:=k) (l:=l3)
    rw [hd] at this
    simpa [Nat.add_comm] using this.symm
   rw [hd] at hm c1 hs hwn
   clear hd
   have HS1:=hid hs
   have HQ1:=hid hq
   clear hs hq
   by_cases hq1:(mkN x 114).2=0
   rotate_left
   ·have HQQ:=hid (HNN.out (by rw [hm];simp [marksO,hq1]))
    have HMK:=hid (show markC 114 (x :: l)=none by rw [markC_cons,if_neg hq1])
    clear hm hq1
    generalize hn1:(x :: l).length=n1 at *
    clear hn1
    go_wp2_with fail
    have HC:=hid (contains_calls _ _ 2 wr HQ1.out.ints)
    rw [ask_R,HFR.out] at HC
    refine HC.out.mono ?_
    rintro e w' ⟨rfl,rfl⟩
    clear HC
    go_upto_region 9 with fail
    clear c1 f0 h0 hwn
    have HD:=hid HS1.out.draw
    have HV0:Hid (wr.drew.cell? ⟨bx,5,none⟩=some (.slice pa xs.length pc)):=HD.out.facts.1.2.2.2.2.2.1
    have HC:=hid (mark_no (c:=114) HD.out.rdr HMK.out)
    rw [show (((114:UInt8).toNat:Nat):Int)=114 from rfl] at HC
    unfold Out at HC
    refine wp_region_Z (S:=(fun w'=>w'.cell? ⟨bx,5,none⟩=some (.slice pa xs.length pc))) (Z:=[11]) (by kernel_rfl) ?_ (fun hHeld=>?_)
    ·(try dsimp only)
     exact HV0.out
    refine zP 0 rfl ?_
    refine zP 1 rfl ?_
    refine zP 2 rfl ?_
    refine zP 3 rfl ?_
    refine zT 4 rfl ?_
    refine zP 5 rfl ?_
    refine zC 6 rfl (fun K hK=>?_)
    go_simp
    (go_at_call 150)
    refine HC.out.mono ?_
    rintro e w9 ⟨rfl,hk⟩
    have HK9:=hid (HD.out.kept.trans (hk.mono (F:=[b,bx]) (by simp)))
    clear hk
    exact ⟨rfl,HQQ.out _ _ ⟨rfl,HK9.out⟩⟩
   have HMK:=hid (show markC 114 (x :: l)=some ((mkN x 114).1,l) by rw [markC_cons,if_pos hq1])
   have HM2:Hid (marksO 114 l3=(marksO 114 l).map ((xs++[(mkN x 114).1]) ++ ·)):=by show _=_;rw [hm];simp [marksO,hq1,Function.comp_def]
   clear hm hq1
   generalize (mkN x 114).1=q at *
   generalize hn1:(x :: l).length=n1 at *
   clear hn1
   go_wp2_with fail
   have HC:=hid (contains_calls _ _ 2 wr HQ1.out.ints)
   rw [ask_R,HFR.out] at HC
   refine HC.out.mono ?_
   rintro e w' ⟨rfl,rfl⟩
   clear HC
   go_upto_region 9 with fail
   clear c1 f0 h0 hwn
   have HD:=hid HS1.out.draw
   have HV0:Hid (wr.drew.cell? ⟨bx,5,none⟩=some (.slice pa xs.length pc)):=HD.out.facts.1.2.2.2.2.2.1
   have HE:=hid (HQ1.out.on ((Below.refl _ wr).drew))
   have HC:=hid (mark_yes (c:=114) HD.out.rdr HMK.out)
   rw [show (((114:UInt8).toNat:Nat):Int)=114 from rfl] at HC
   unfold Goes at HC
   refine wp_region_noPanic ?_
   refine wp_region_Z (S:=(fun w'=>w'.cell? ⟨bx,5,none⟩=some (.slice pa xs.length pc))) (Z:=[11]) (by kernel_rfl) ?_ (fun hHeld=>?_)
   ·(try dsimp only)
    exact HV0.out
   refine zP 0 rfl ?_
   refine zP 1 rfl ?_
   refine zP 2 rfl ?_
   refine zP 3 rfl ?_
   refine zT 4 rfl ?_
   refine zP 5 rfl ?_
   refine zC 6 rfl (fun K hK=>?_)
   go_simp
   (go_at_call 150;(with_reducible refine HC.out.mono ?_);rintro e w1 ⟨rfl,hr1,hk1⟩;have HS1a:=hid (HD.out.go hr1 hk1);have HS2:=hid (HS1a.out.on (alloc_below w1 (.cells #[.int .i64 q] 3)));have HQ2:=hid ((HE.out.go HD.out.rdr hk1).on (alloc_below w1 (.cells #[.int .i64 q] 3)));have HV1:Hid (w1.cell? ⟨bx,5,none⟩=some (.slice pa xs.length pc)):=HS1a.out.facts.1.2.2.2.2.2.1;have HV2:Hid ((w1.alloc (.cells #[.int .i64 q] 3)).cell? ⟨bx,5,none⟩=some (.slice pa xs.length pc)):=HS2.out.facts.1.2.2.2.2.2.1;clear hr1 hk1 HC HS1a)
   refine hK.out _ _ ?_ (fun hHeld=>?_)
   ·(try dsimp only)
    exact HV1.out
   clear hK K
   refine zC 7 rfl (fun K hK=>?_)
   go_simp
   refine hK.out _ _ ?_ (fun hHeld=>?_)
   ·(try dsimp only)
    exact HV2.out
   clear hK K
   refine zC 8 rfl (fun K hK=>?_)
   rw [if_pos (by rfl)]
   have hcc:(w1.alloc (.cells #[.int .i64 q] 3)).cell? ⟨w1.heap.size,0,none⟩=some (.int .i64 q):=cell_new _ _ _ _ rfl
   have hsz:w.heap.size≤(w1.alloc (.cells #[.int .i64 q] 3)).heap.size:=HS2.out.kept.size
   refine wp_append_int1 (.tmp 66) (.tmp 69) rfl w.heap.size (.slice pa xs.length pc) rfl _ _ HS2.out.box.owa (by have:=HXK.out;have:=HLT.out;have:=HL3.out;simp;omega) w1.heap.size q rfl hcc hsz ?_
   intro v5 w5 h5 hg5 hn5
   obtain ⟨g1,g2⟩:=HS2.out.growA h5 hg5 hn5
   have hq5:=HQ2.out.growA hg5 hn5 g1
   obtain ⟨p5,c5,h50⟩:=own_form h5
   have h55:v5=.slice p5 (xs.length+1) c5:=by simpa using h50
   clear h50
   subst h55
   have HS5:=hid g2
   have HQ5:=hid hq5
   have HB5:=hid g1
   have HV5:Hid (w5.cell? ⟨bx,5,none⟩=some (.slice pa xs.length pc)):=cells_of g1 5 _ rfl
   clear h5 hg5 hn5 g1 g2 hq5 hcc hsz
   refine hK.out _ _ ?_ (fun hHeld=>?_)
   ·(try dsimp only)
    exact HV5.out
   clear hK K
   refine zP 9 rfl ?_
   refine zP 10 rfl ?_
   refine zL 11 rfl (fun K hK=>?_)
   have zz:=(ShTB.cells_heap HB5.out).2 5
   have yy:=HV5.out
   go_simp
   refine hK.out _ _ ?_
   clear hK K
   refine wpAnyZ_done (by kernel_rfl) ?_ _
   refine NoPanic.normal ?_
   go_wp2
   go_roundg (gk - 1)
   case measure=>have:=HK.out;have:=HLT.out;omega
   case rel=>exact ⟨k+1,xs++[q],_,by have:=HK.out;have:=HLT.out;omega,by have:=HXK.out;simp;omega,by rw [HDK.out];exact HM2.out,by rw [HDK.out];exact HS5.out,HQ5.out⟩
theorem has_args00 {bx:Nat} {op typ:Int} (h:HasS W b L ws reg tv w bx (ix0 op typ) (.slice none 0 0) (.slice none 0 0) w) (htab:ShA.Tab W) (h0:0≤op) (h22:op≤22) (fA:hasAB op=false) (fB:twoB op=false) {qn:Int} {l3:Ln} (hN:numC op ws=some (qn,l3)) (fR:argsB op=true) (ho:(op == 22)=false) {r:List Int} (hR:marksO 114 l3=some r) :
  Calls Tryz.prog 208 #[.pointer (some ⟨b,0,none⟩),.pointer (some ⟨bx,0,none⟩)] w (HasO W b L [] reg tv bx ⟨op,typ,0,0,qn,r,[]⟩ w):=by
 exact has_args00W h htab h0 h22 fA fB hN fR ho (fun r2 h2=>by cases hR.symm.trans h2;exact fun _ _ h=>h) (fun h2=>by cases hR.symm.trans h2)
theorem has_args00_no {bx:Nat} {op typ:Int} (h:HasS W b L ws reg tv w bx (ix0 op typ) (.slice none 0 0) (.slice none 0 0) w) (htab:ShA.Tab W) (h0:0≤op) (h22:op≤22) (fA:hasAB op=false) (fB:twoB op=false) {qn:Int} {l3:Ln} (hN:numC op ws=some (qn,l3)) (fR:argsB op=true) (ho:(op == 22)=false) (hR:marksO 114 l3=none) :
  Calls Tryz.prog 208 #[.pointer (some ⟨b,0,none⟩),.pointer (some ⟨bx,0,none⟩)] w (Out2 b bx w):=by
 exact has_args00W h htab h0 h22 fA fB hN fR ho (fun r2 h2=>by cases hR.symm.trans h2) (fun _ _ _ h=>h)
theorem has_phi00W {bx:Nat} {op typ:Int} (h:HasS W b L ws reg tv w bx (ix0 op typ) (.slice none 0 0) (.slice none 0 0) w) (htab:ShA.Tab W) (h0:0≤op) (h22:op≤22) {Q:Ending→World→Prop} (fA:hasAB op=false) (fB:twoB op=false) {qn:Int} {l3:Ln} (hN:numC op ws=some (qn,l3)) (fR:argsB op=true) (ho:(op == 22)=true) (hy:∀ r,pairsO l3=some r→∀ e w',HasO W b L [] reg tv bx ⟨op,typ,0,0,qn,(r.map Prod.snd),(r.map Prod.fst)⟩ w e w'→Q e w') (hn:pairsO l3=none→∀ e w',Out2 b bx w e w'→Q e w') :
  Calls Tryz.prog 208 #[.pointer (some ⟨b,0,none⟩),.pointer (some ⟨bx,0,none⟩)] w (Q):=by
 have HY:=hid hy
 have HNN:=hid hn
 clear hy hn
 have HFA:=hid fA
 clear fA
 have HFB:=hid fB
 clear fB
 have HN:=hid hN
 clear hN
 have HFR:=hid fR
 clear fR
 have HOP:=hid ho
 clear ho
 have hA1:=h.on (alloc_below w (.cells #[.int .i64 2] 3))
 have HUS:=hid (ShU.uses_calls (askX op) (.slice (some ⟨w.heap.size,0,none⟩) 1 1) (.slice none 0 0) (w.alloc (.cells #[.int .i64 2] 3)) h0 (by show op≤255;omega) (htab.on (h.rdr.be.trans ((alloc_below w _).mono h.rdr.be.size))) (ints_one (cell_new _ _ _ _ rfl) (size_new _ _ _ rfl)) (by show 1≤1000;omega) ⟨_,_,_,rfl⟩)
 rw [show ixV (askX op) (.slice (some ⟨w.heap.size,0,none⟩) 1 1) (.slice none 0 0)=.agg #[.int .u8 op,.int .i64 0,.int .i64 0,.int .i64 1,.int .i64 0,.slice (some ⟨w.heap.size,0,none⟩) 1 1,.slice none 0 0] from rfl] at HUS
 unfold OwnI at HUS
 have HA1:=hid hA1
 have f0:w.cell? ⟨bx,0,none⟩=some (.int .u8 op):=h.facts.1.1
 have hbx:=h.lt
 clear h hA1 htab h0 h22
 go_enter Tryz.func208,Tryz.ntmps208
 go_wp2_with fail
 refine HUS.out.mono ?_
 rintro e w1 ⟨uv,un,rfl,huo,hb1⟩
 have hun:un=(usesOf (askX op)).length:=by have:=huo.1;rw [intVals_length] at this;omega
 subst hun
 have HS1:=hid (HA1.out.on hb1)
 have HQ1:Hid (AskS w op uv (.slice none 0 0) (.slice none 0 0) w1):=⟨owns_base huo (by simp),(fun g h1 h2=>by cases h2),(fun g h1 h2=>by cases h2)⟩
 obtain ⟨ua,uc,rfl⟩:=own_form huo
 clear huo hb1 HUS HA1 f0
 go_wp2_with fail
 have HC:=hid (contains_calls _ _ 0 w1 HQ1.out.ints)
 rw [ask_A,HFA.out] at HC
 refine HC.out.mono ?_
 rintro e w' ⟨rfl,rfl⟩
 clear HC
 have HF0:Hid (w1.cell? ⟨bx,0,none⟩=some (.int .u8 op)):=HS1.out.facts.1.1
 go_wp2_with fail
 have HC:=hid (contains_calls _ _ 1 w1 HQ1.out.ints)
 rw [ask_B,HFB.out] at HC
 refine HC.out.mono ?_
 rintro e w' ⟨rfl,rfl⟩
 clear HC
 have f0:=HF0.out
 go_wp2_with fail
 clear f0
 refine (number_yes HS1.out.rdr HN.out).mono ?_
 rintro e w2 ⟨rfl,hr,hk⟩
 have hs:=HS1.out.go hr hk
 have hq:=HQ1.out.go HS1.out.rdr hk
 have g4:=hs.facts.1.2.2.2.2.1
 have gz4:=hs.facts.2 4
 obtain ⟨w3,hX⟩:∃ X,X=w2.setCell ⟨bx,4,none⟩ (.int .i64 qn):=⟨_,rfl⟩
 have HX:=hid hX
 have HSM:Hid (HasS W b L l3 reg tv w bx ⟨op,typ,0,0,qn,[],[]⟩ (.slice none 0 0) (.slice none 0 0) w3):=by show HasS _ _ _ _ _ _ _ _ _ _ _ _;rw [hX];exact hs.set (hs.box.setN qn)
 have HQM:Hid (AskS w op (.slice ua (usesOf (askX op)).length uc) (.slice none 0 0) (.slice none 0 0) w3):=by show AskS _ _ _ _ _ _;rw [hX];exact hq.set hs.box _
 have HL3:=hid hr.fw.1
 clear hr hk hs hq hX HS1 HQ1 HF0
 go_wp2_with fail
 rw [← HX.out]
 clear g4 gz4 HX
 go_loopg [] l3.length (fun gk wr=>∃ (k:Nat) (xs:List (Int × Int)) (va vf:Value),2 * k+gk=l3.length∧xs.length=k∧pairsO l3=(pairsO (l3.drop (2 * k))).map (xs ++ ·)∧HasS W b L (l3.drop (2 * k)) reg tv w bx ⟨op,typ,0,0,qn,(xs.map Prod.snd),(xs.map Prod.fst)⟩ va vf wr∧AskS w op (.slice ua (usesOf (askX op)).length uc) va vf wr)
 case atStart=>exact ⟨0,[],_,_,by omega,rfl,by simp,HSM.out,HQM.out⟩
 case round =>
  obtain ⟨k,xs,va,vf,hk,hxk,hm,hs,hq⟩:=hrel
  clear HSM HQM
  obtain ⟨pa,pc,hpa0⟩:=own_form hs.box.owa
  have hpa:va=.slice pa xs.length pc:=by simpa using hpa0
  clear hpa0
  subst hpa
  obtain ⟨pf,pg,hpf0⟩:=own_form hs.box.owf
  have hpf:vf=.slice pf xs.length pg:=by simpa using hpf0
  clear hpf0
  subst hpf
  have HK:=hid hk
  have HXK:=hid hxk
  obtain ⟨la,lc,wa,wc,c0,c1,c2,c3,hfz,_,_,hb,_,hwn⟩:=hs.rdr.facts
  have f0:wr.cell? ⟨bx,0,none⟩=some (.int .u8 op):=hs.facts.1.1
  have hop:=HOP.out
  clear c0 c2 c3 hfz hk hxk
  cases hd:l3.drop (2 * k) with
  | nil =>
   rw [hd] at hm c1 hs
   have HQQ:=hid (HY.out xs (by rw [hm];simp [pairsO]))
   have HS1:=hid hs
   have HQ1:=hid hq
   clear hd hs hq hm
   go_wp2_with fail
   have HC:=hid (contains_calls _ _ 2 wr HQ1.out.ints)
   rw [ask_R,HFR.out] at HC
   refine HC.out.mono ?_
   rintro e w' ⟨rfl,rfl⟩
   clear HC
   go_wp2
   go_end0
   exact HQQ.out _ _ ⟨rfl,_,_,HS1.out⟩
  | cons x l =>
   have hlt:(2 * k) < l3.length:=by
    have:=congrArg List.length hd
    rw [List.length_drop] at this
    simp at this
    omega
   have HLT:=hid hlt
   have h0:(0:Int) < ((x :: l).length:Int):=by simp only [List.length_cons];omega
   clear hlt
   have HDK:Hid (l3.drop (2 * k+1)=l):=by
    show List.drop _ _=_
    have:=List.drop_drop (i:=1) (j:=(2 * k)) (l:=l3)
    rw [hd] at this
    simpa [Nat.add_comm] using this.symm
   rw [hd] at hm c1 hs hwn
   clear hd
   have HS1:=hid hs
   have HQ1:=hid hq
   clear hs hq
   by_cases hq1:(mkN x 98).2=0
   rotate_left
   ·have HQQ:=hid (HNN.out (by rw [hm];cases l<;>simp [pairsO,hq1]))
    have HMK:=hid (show markC 98 (x :: l)=none by rw [markC_cons,if_neg hq1])
    clear hm hq1
    generalize hn1:(x :: l).length=n1 at *
    clear hn1
    go_wp2_with fail
    have HC:=hid (contains_calls _ _ 2 wr HQ1.out.ints)
    rw [ask_R,HFR.out] at HC
    refine HC.out.mono ?_
    rintro e w' ⟨rfl,rfl⟩
    clear HC
    go_upto_region 8 with fail
    clear c1 f0 h0 hwn
    have HD:=hid HS1.out.draw
    have HV0:Hid (wr.drew.cell? ⟨bx,6,none⟩=some (.slice pf xs.length pg)):=HD.out.facts.1.2.2.2.2.2.2
    have HC:=hid (mark_no (c:=98) HD.out.rdr HMK.out)
    rw [show (((98:UInt8).toNat:Nat):Int)=98 from rfl] at HC
    unfold Out at HC
    refine wp_region_Z (S:=(fun w'=>w'.cell? ⟨bx,6,none⟩=some (.slice pf xs.length pg))) (Z:=[11]) (by kernel_rfl) ?_ (fun hHeld=>?_)
    ·(try dsimp only)
     exact HV0.out
    refine zP 0 rfl ?_
    refine zP 1 rfl ?_
    refine zP 2 rfl ?_
    refine zP 3 rfl ?_
    refine zT 4 rfl ?_
    refine zP 5 rfl ?_
    refine zC 6 rfl (fun K hK=>?_)
    go_simp
    (go_at_call 150)
    refine HC.out.mono ?_
    rintro e w9 ⟨rfl,hk⟩
    have HK9:=hid (HD.out.kept.trans (hk.mono (F:=[b,bx]) (by simp)))
    clear hk
    exact ⟨rfl,HQQ.out _ _ ⟨rfl,HK9.out⟩⟩
   have HMK:=hid (show markC 98 (x :: l)=some ((mkN x 98).1,l) by rw [markC_cons,if_pos hq1])
   have HMM:=hid hm
   have HX1:=hid hq1
   clear hm hq1
   obtain ⟨qb1,hqb⟩:∃ q,q=(mkN x 98).1:=⟨_,rfl⟩
   have HB1:=hid hqb
   rw [← hqb] at HMK
   clear hqb
   generalize hn1:(x :: l).length=n1 at *
   clear hn1
   go_wp2_with fail
   have HC:=hid (contains_calls _ _ 2 wr HQ1.out.ints)
   rw [ask_R,HFR.out] at HC
   refine HC.out.mono ?_
   rintro e w' ⟨rfl,rfl⟩
   clear HC
   go_upto_region 8 with fail
   clear c1 f0 h0 hwn
   have HD:=hid HS1.out.draw
   have HV0:Hid (wr.drew.cell? ⟨bx,6,none⟩=some (.slice pf xs.length pg)):=HD.out.facts.1.2.2.2.2.2.2
   have HE:=hid (HQ1.out.on ((Below.refl _ wr).drew))
   have HC:=hid (mark_yes (c:=98) HD.out.rdr HMK.out)
   rw [show (((98:UInt8).toNat:Nat):Int)=98 from rfl] at HC
   unfold Goes at HC
   refine wp_region_noPanic ?_
   refine wp_region_Z (S:=(fun w'=>w'.cell? ⟨bx,6,none⟩=some (.slice pf xs.length pg))) (Z:=[11]) (by kernel_rfl) ?_ (fun hHeld=>?_)
   ·(try dsimp only)
    exact HV0.out
   refine zP 0 rfl ?_
   refine zP 1 rfl ?_
   refine zP 2 rfl ?_
   refine zP 3 rfl ?_
   refine zT 4 rfl ?_
   refine zP 5 rfl ?_
   refine zC 6 rfl (fun K hK=>?_)
   go_simp
   (go_at_call 150;(with_reducible refine HC.out.mono ?_);rintro e w1 ⟨rfl,hr1,hk1⟩;have HS1a:=hid (HD.out.go hr1 hk1);have HS2:=hid (HS1a.out.on (alloc_below w1 (.cells #[.int .i64 qb1] 3)));have HQ2:=hid ((HE.out.go HD.out.rdr hk1).on (alloc_below w1 (.cells #[.int .i64 qb1] 3)));have HV1:Hid (w1.cell? ⟨bx,6,none⟩=some (.slice pf xs.length pg)):=HS1a.out.facts.1.2.2.2.2.2.2;have HV2:Hid ((w1.alloc (.cells #[.int .i64 qb1] 3)).cell? ⟨bx,6,none⟩=some (.slice pf xs.length pg)):=HS2.out.facts.1.2.2.2.2.2.2;clear hr1 hk1 HC HS1a)
   refine hK.out _ _ ?_ (fun hHeld=>?_)
   ·(try dsimp only)
    exact HV1.out
   clear hK K
   refine zC 7 rfl (fun K hK=>?_)
   go_simp
   refine hK.out _ _ ?_ (fun hHeld=>?_)
   ·(try dsimp only)
    exact HV2.out
   clear hK K
   refine zC 8 rfl (fun K hK=>?_)
   rw [if_pos (by rfl)]
   have hcc:(w1.alloc (.cells #[.int .i64 qb1] 3)).cell? ⟨w1.heap.size,0,none⟩=some (.int .i64 qb1):=cell_new _ _ _ _ rfl
   have hsz:w.heap.size≤(w1.alloc (.cells #[.int .i64 qb1] 3)).heap.size:=HS2.out.kept.size
   refine wp_append_int1 (.tmp 55) (.tmp 58) rfl w.heap.size (.slice pf xs.length pg) rfl _ _ HS2.out.box.owf (by have:=HXK.out;have:=HLT.out;have:=HL3.out;simp;omega) w1.heap.size qb1 rfl hcc hsz ?_
   intro v5 w5 h5 hg5 hn5
   obtain ⟨g1,g2⟩:=HS2.out.growF h5 hg5 hn5
   have hq5:=HQ2.out.growF hg5 hn5 g1
   obtain ⟨p5,c5,h50⟩:=own_form h5
   have h55:v5=.slice p5 (xs.length+1) c5:=by simpa using h50
   clear h50
   subst h55
   have HS5:=hid g2
   have HQ5:=hid hq5
   have HB5:=hid g1
   have HV5:Hid (w5.cell? ⟨bx,6,none⟩=some (.slice pf xs.length pg)):=cells_of g1 6 _ rfl
   clear h5 hg5 hn5 g1 g2 hq5 hcc hsz
   refine hK.out _ _ ?_ (fun hHeld=>?_)
   ·(try dsimp only)
    exact HV5.out
   clear hK K
   refine zP 9 rfl ?_
   refine zP 10 rfl ?_
   refine zL 11 rfl (fun K hK=>?_)
   have zz:=(ShTB.cells_heap HB5.out).2 6
   have yy:=HV5.out
   go_simp
   refine hK.out _ _ ?_
   clear hK K
   refine wpAnyZ_done (by kernel_rfl) ?_ _
   refine NoPanic.normal ?_
   obtain ⟨X5,hX5⟩:∃ X,X=w5.setCell ⟨bx,6,none⟩ (.slice p5 (xs.length+1) c5):=⟨_,rfl⟩
   rw [← hX5]
   have HS6:=HS5.out
   have HQ6:=HQ5.out
   rw [← hX5] at HS6 HQ6
   have HS7:=hid HS6
   have HQ7:=hid HQ6
   have f1:X5.cell? ⟨bx,0,none⟩=some (.int .u8 op):=HS6.facts.1.1
   clear HS5 HQ5 HS6 HQ6 HS1 HQ1 HS2 HQ2 HV0 HV1 HV2 HV5 HB5 HD HE hX5
   go_upto_region 9 with fail
   clear f1
   cases hrm:markC 114 l with
   | none =>
    have HQQ:=hid (HNN.out (by rw [HMM.out,pairs_none hrm];rfl))
    have HMR:=hid hrm
    clear hrm
    have HD:=hid HS7.out.draw
    have HV0:Hid (X5.drew.cell? ⟨bx,5,none⟩=some (.slice pa xs.length pc)):=HD.out.facts.1.2.2.2.2.2.1
    have HC:=hid (mark_no (c:=114) HD.out.rdr HMR.out)
    rw [show (((114:UInt8).toNat:Nat):Int)=114 from rfl] at HC
    unfold Out at HC
    refine wp_region_Z (S:=(fun w'=>w'.cell? ⟨bx,5,none⟩=some (.slice pa xs.length pc))) (Z:=[11]) (by kernel_rfl) ?_ (fun hHeld=>?_)
    ·(try dsimp only)
     exact HV0.out
    refine zP 0 rfl ?_
    refine zP 1 rfl ?_
    refine zP 2 rfl ?_
    refine zP 3 rfl ?_
    refine zT 4 rfl ?_
    refine zP 5 rfl ?_
    refine zC 6 rfl (fun K hK=>?_)
    go_simp
    (go_at_call 150)
    refine HC.out.mono ?_
    rintro e w9 ⟨rfl,hk⟩
    have HK9:=hid (HD.out.kept.trans (hk.mono (F:=[b,bx]) (by simp)))
    clear hk
    exact ⟨rfl,HQQ.out _ _ ⟨rfl,HK9.out⟩⟩
   | some qm =>
    obtain ⟨qr1,m⟩:=qm
    obtain ⟨y,hl,hp⟩:=pairs_some HX1.out hrm
    have HM2:Hid (pairsO l3=(pairsO m).map ((xs++[(qb1,qr1)]) ++ ·)):=by show _=_;rw [HMM.out,hp,← HB1.out];simp [Function.comp_def]
    have HMR:=hid hrm
    have HDL:=HDK.out
    rw [hl] at HDL
    have HLT2:Hid (2 * k+1 < l3.length):=by
     show _ < _
     have:=congrArg List.length HDL
     rw [List.length_drop] at this
     simp at this
     omega
    have HDK2:Hid (l3.drop (2 * k+1+1)=m):=by
     show List.drop _ _=_
     have:=List.drop_drop (i:=1) (j:=2 * k+1) (l:=l3)
     rw [HDL] at this
     simpa [Nat.add_comm] using this.symm
    clear hrm hp hl HDL
    have HD:=hid HS7.out.draw
    have HV0:Hid (X5.drew.cell? ⟨bx,5,none⟩=some (.slice pa xs.length pc)):=HD.out.facts.1.2.2.2.2.2.1
    have HE:=hid (HQ7.out.on ((Below.refl _ X5).drew))
    have HC:=hid (mark_yes (c:=114) HD.out.rdr HMR.out)
    rw [show (((114:UInt8).toNat:Nat):Int)=114 from rfl] at HC
    unfold Goes at HC
    refine wp_region_noPanic ?_
    refine wp_region_Z (S:=(fun w'=>w'.cell? ⟨bx,5,none⟩=some (.slice pa xs.length pc))) (Z:=[11]) (by kernel_rfl) ?_ (fun hHeld=>?_)
    ·(try dsimp only)
     exact HV0.out
    refine zP 0 rfl ?_
    refine zP 1 rfl ?_
    refine zP 2 rfl ?_
    refine zP 3 rfl ?_
    refine zT 4 rfl ?_
    refine zP 5 rfl ?_
    refine zC 6 rfl (fun K hK=>?_)
    go_simp
    (go_at_call 150;(with_reducible refine HC.out.mono ?_);rintro e w1 ⟨rfl,hr1,hk1⟩;have HS1a:=hid (HD.out.go hr1 hk1);have HS2:=hid (HS1a.out.on (alloc_below w1 (.cells #[.int .i64 qr1] 3)));have HQ2:=hid ((HE.out.go HD.out.rdr hk1).on (alloc_below w1 (.cells #[.int .i64 qr1] 3)));have HV1:Hid (w1.cell? ⟨bx,5,none⟩=some (.slice pa xs.length pc)):=HS1a.out.facts.1.2.2.2.2.2.1;have HV2:Hid ((w1.alloc (.cells #[.int .i64 qr1] 3)).cell? ⟨bx,5,none⟩=some (.slice pa xs.length pc)):=HS2.out.facts.1.2.2.2.2.2.1;clear hr1 hk1 HC HS1a)
    refine hK.out _ _ ?_ (fun hHeld=>?_)
    ·(try dsimp only)
     exact HV1.out
    clear hK K
    refine zC 7 rfl (fun K hK=>?_)
    go_simp
    refine hK.out _ _ ?_ (fun hHeld=>?_)
    ·(try dsimp only)
     exact HV2.out
    clear hK K
    refine zC 8 rfl (fun K hK=>?_)
    rw [if_pos (by rfl)]
    have hcc:(w1.alloc (.cells #[.int .i64 qr1] 3)).cell? ⟨w1.heap.size,0,none⟩=some (.int .i64 qr1):=cell_new _ _ _ _ rfl
    have hsz:w.heap.size≤(w1.alloc (.cells #[.int .i64 qr1] 3)).heap.size:=HS2.out.kept.size
    refine wp_append_int1 (.tmp 66) (.tmp 69) rfl w.heap.size (.slice pa xs.length pc) rfl _ _ HS2.out.box.owa (by have:=HXK.out;have:=HLT.out;have:=HL3.out;simp;omega) w1.heap.size qr1 rfl hcc hsz ?_
    intro v5 w5 h5 hg5 hn5
    obtain ⟨g1,g2⟩:=HS2.out.growA h5 hg5 hn5
    have hq5:=HQ2.out.growA hg5 hn5 g1
    obtain ⟨p5,c5,h50⟩:=own_form h5
    have h55:v5=.slice p5 (xs.length+1) c5:=by simpa using h50
    clear h50
    subst h55
    have HS5:=hid g2
    have HQ5:=hid hq5
    have HB5:=hid g1
    have HV5:Hid (w5.cell? ⟨bx,5,none⟩=some (.slice pa xs.length pc)):=cells_of g1 5 _ rfl
    clear h5 hg5 hn5 g1 g2 hq5 hcc hsz
    refine hK.out _ _ ?_ (fun hHeld=>?_)
    ·(try dsimp only)
     exact HV5.out
    clear hK K
    refine zP 9 rfl ?_
    refine zP 10 rfl ?_
    refine zL 11 rfl (fun K hK=>?_)
    have zz:=(ShTB.cells_heap HB5.out).2 5
    have yy:=HV5.out
    go_simp
    refine hK.out _ _ ?_
    clear hK K
    refine wpAnyZ_done (by kernel_rfl) ?_ _
    refine NoPanic.normal ?_
    go_wp2
    go_roundg (gk - 2)
    case measure=>have:=HK.out;have:=HLT2.out;omega
    case rel=>exact ⟨k+1,xs++[(qb1,qr1)],_,_,by have:=HK.out;have:=HLT2.out;omega,by have:=HXK.out;simp;omega,by rw [show 2 * (k+1)=2 * k+1+1 by omega,HDK2.out];exact HM2.out,by rw [show 2 * (k+1)=2 * k+1+1 by omega,HDK2.out];simpa using HS5.out,HQ5.out⟩
theorem has_phi00 {bx:Nat} {op typ:Int} (h:HasS W b L ws reg tv w bx (ix0 op typ) (.slice none 0 0) (.slice none 0 0) w) (htab:ShA.Tab W) (h0:0≤op) (h22:op≤22) (fA:hasAB op=false) (fB:twoB op=false) {qn:Int} {l3:Ln} (hN:numC op ws=some (qn,l3)) (fR:argsB op=true) (ho:(op == 22)=true) {r:List (Int × Int)} (hR:pairsO l3=some r) :
  Calls Tryz.prog 208 #[.pointer (some ⟨b,0,none⟩),.pointer (some ⟨bx,0,none⟩)] w (HasO W b L [] reg tv bx ⟨op,typ,0,0,qn,(r.map Prod.snd),(r.map Prod.fst)⟩ w):=by
 exact has_phi00W h htab h0 h22 fA fB hN fR ho (fun r2 h2=>by cases hR.symm.trans h2;exact fun _ _ h=>h) (fun h2=>by cases hR.symm.trans h2)
theorem has_phi00_no {bx:Nat} {op typ:Int} (h:HasS W b L ws reg tv w bx (ix0 op typ) (.slice none 0 0) (.slice none 0 0) w) (htab:ShA.Tab W) (h0:0≤op) (h22:op≤22) (fA:hasAB op=false) (fB:twoB op=false) {qn:Int} {l3:Ln} (hN:numC op ws=some (qn,l3)) (fR:argsB op=true) (ho:(op == 22)=true) (hR:pairsO l3=none) :
  Calls Tryz.prog 208 #[.pointer (some ⟨b,0,none⟩),.pointer (some ⟨bx,0,none⟩)] w (Out2 b bx w):=by
 exact has_phi00W h htab h0 h22 fA fB hN fR ho (fun r2 h2=>by cases hR.symm.trans h2) (fun _ _ _ h=>h)
theorem has_none10 {bx:Nat} {op typ:Int} (h:HasS W b L ws reg tv w bx (ix0 op typ) (.slice none 0 0) (.slice none 0 0) w) (htab:ShA.Tab W) (h0:0≤op) (h22:op≤22) (fA:hasAB op=true) (fB:twoB op=false) {qa:Int} {l1:Ln} (hA:markC 114 ws=some (qa,l1)) {qn:Int} {l3:Ln} (hN:numC op l1=some (qn,l3)) (fR:argsB op=false) :
  Calls Tryz.prog 208 #[.pointer (some ⟨b,0,none⟩),.pointer (some ⟨bx,0,none⟩)] w (HasO W b L l3 reg tv bx ⟨op,typ,qa,0,qn,[],[]⟩ w):=by
 have HFA:=hid fA
 clear fA
 have HFB:=hid fB
 clear fB
 have HA:=hid hA
 clear hA
 have HN:=hid hN
 clear hN
 have HFR:=hid fR
 clear fR
 have hA1:=h.on (alloc_below w (.cells #[.int .i64 2] 3))
 have HUS:=hid (ShU.uses_calls (askX op) (.slice (some ⟨w.heap.size,0,none⟩) 1 1) (.slice none 0 0) (w.alloc (.cells #[.int .i64 2] 3)) h0 (by show op≤255;omega) (htab.on (h.rdr.be.trans ((alloc_below w _).mono h.rdr.be.size))) (ints_one (cell_new _ _ _ _ rfl) (size_new _ _ _ rfl)) (by show 1≤1000;omega) ⟨_,_,_,rfl⟩)
 rw [show ixV (askX op) (.slice (some ⟨w.heap.size,0,none⟩) 1 1) (.slice none 0 0)=.agg #[.int .u8 op,.int .i64 0,.int .i64 0,.int .i64 1,.int .i64 0,.slice (some ⟨w.heap.size,0,none⟩) 1 1,.slice none 0 0] from rfl] at HUS
 unfold OwnI at HUS
 have HA1:=hid hA1
 have f0:w.cell? ⟨bx,0,none⟩=some (.int .u8 op):=h.facts.1.1
 have hbx:=h.lt
 clear h hA1 htab h0 h22
 go_enter Tryz.func208,Tryz.ntmps208
 go_wp2_with fail
 refine HUS.out.mono ?_
 rintro e w1 ⟨uv,un,rfl,huo,hb1⟩
 have hun:un=(usesOf (askX op)).length:=by have:=huo.1;rw [intVals_length] at this;omega
 subst hun
 have HS1:=hid (HA1.out.on hb1)
 have HQ1:Hid (AskS w op uv (.slice none 0 0) (.slice none 0 0) w1):=⟨owns_base huo (by simp),(fun g h1 h2=>by cases h2),(fun g h1 h2=>by cases h2)⟩
 obtain ⟨ua,uc,rfl⟩:=own_form huo
 clear huo hb1 HUS HA1 f0
 go_wp2_with fail
 have HC:=hid (contains_calls _ _ 0 w1 HQ1.out.ints)
 rw [ask_A,HFA.out] at HC
 refine HC.out.mono ?_
 rintro e w' ⟨rfl,rfl⟩
 clear HC
 go_wp2_with fail
 refine (mark_yes (c:=114) HS1.out.rdr HA.out).mono ?_
 rintro e w2 ⟨rfl,hr,hk⟩
 have hs:=HS1.out.go hr hk
 have hq:=HQ1.out.go HS1.out.rdr hk
 obtain ⟨⟨_,_,g2,g3,_⟩,gz⟩:=hs.facts
 have gz2:=gz 2
 obtain ⟨w3,hX⟩:∃ X,X=w2.setCell ⟨bx,2,none⟩ (.int .i64 qa):=⟨_,rfl⟩
 have HX:=hid hX
 have HS3:Hid (HasS W b L l1 reg tv w bx ⟨op,typ,qa,0,0,[],[]⟩ (.slice none 0 0) (.slice none 0 0) w3):=by show HasS _ _ _ _ _ _ _ _ _ _ _ _;rw [hX];exact hs.set (hs.box.setA qa)
 have HQ3:Hid (AskS w op (.slice ua (usesOf (askX op)).length uc) (.slice none 0 0) (.slice none 0 0) w3):=by show AskS _ _ _ _ _ _;rw [hX];exact hq.set hs.box _
 have HF0:Hid (w3.cell? ⟨bx,0,none⟩=some (.int .u8 op)):=HS3.out.facts.1.1
 have f0:=HF0.out
 clear hr hk hs hq gz hX HS1 HQ1
 rw [HX.out] at f0
 go_wp2_with fail
 rw [← HX.out]
 clear f0 g2 g3 gz2 HX
 have HC:=hid (contains_calls _ _ 1 w3 HQ3.out.ints)
 rw [ask_B,HFB.out] at HC
 refine HC.out.mono ?_
 rintro e w' ⟨rfl,rfl⟩
 clear HC
 have f0:=HF0.out
 go_wp2_with fail
 clear f0
 refine (number_yes HS3.out.rdr HN.out).mono ?_
 rintro e w4 ⟨rfl,hr,hk⟩
 have hs:=HS3.out.go hr hk
 have hq:=HQ3.out.go HS3.out.rdr hk
 have g4:=hs.facts.1.2.2.2.2.1
 have gz4:=hs.facts.2 4
 obtain ⟨w5,hX⟩:∃ X,X=w4.setCell ⟨bx,4,none⟩ (.int .i64 qn):=⟨_,rfl⟩
 have HX:=hid hX
 have HSM:Hid (HasS W b L l3 reg tv w bx ⟨op,typ,qa,0,qn,[],[]⟩ (.slice none 0 0) (.slice none 0 0) w5):=by show HasS _ _ _ _ _ _ _ _ _ _ _ _;rw [hX];exact hs.set (hs.box.setN qn)
 have HQM:Hid (AskS w op (.slice ua (usesOf (askX op)).length uc) (.slice none 0 0) (.slice none 0 0) w5):=by show AskS _ _ _ _ _ _;rw [hX];exact hq.set hs.box _
 have HL3:=hid hr.fw.1
 clear hr hk hs hq hX HS3 HQ3 HF0
 go_wp2_with fail
 rw [← HX.out]
 clear g4 gz4 HX
 go_loopg [] 0 (fun gk wr=>wr=w5)
 case atStart=>rfl
 case round =>
  subst hrel
  go_wp2_with fail
  have HC:=hid (contains_calls _ _ 2 _ HQM.out.ints)
  rw [ask_R,HFR.out] at HC
  refine HC.out.mono ?_
  rintro e w' ⟨rfl,rfl⟩
  clear HC
  go_wp2
  go_end0
  exact ⟨rfl,_,_,HSM.out⟩
theorem has_args10W {bx:Nat} {op typ:Int} (h:HasS W b L ws reg tv w bx (ix0 op typ) (.slice none 0 0) (.slice none 0 0) w) (htab:ShA.Tab W) (h0:0≤op) (h22:op≤22) {Q:Ending→World→Prop} (fA:hasAB op=true) (fB:twoB op=false) {qa:Int} {l1:Ln} (hA:markC 114 ws=some (qa,l1)) {qn:Int} {l3:Ln} (hN:numC op l1=some (qn,l3)) (fR:argsB op=true) (ho:(op == 22)=false) (hy:∀ r,marksO 114 l3=some r→∀ e w',HasO W b L [] reg tv bx ⟨op,typ,qa,0,qn,r,[]⟩ w e w'→Q e w') (hn:marksO 114 l3=none→∀ e w',Out2 b bx w e w'→Q e w') :
  Calls Tryz.prog 208 #[.pointer (some ⟨b,0,none⟩),.pointer (some ⟨bx,0,none⟩)] w (Q):=by
 have HY:=hid hy
 have HNN:=hid hn
 clear hy hn
 have HFA:=hid fA
 clear fA
 have HFB:=hid fB
 clear fB
 have HA:=hid hA
 clear hA
 have HN:=hid hN
 clear hN
 have HFR:=hid fR
 clear fR
 have HOP:=hid ho
 clear ho
 have hA1:=h.on (alloc_below w (.cells #[.int .i64 2] 3))
 have HUS:=hid (ShU.uses_calls (askX op) (.slice (some ⟨w.heap.size,0,none⟩) 1 1) (.slice none 0 0) (w.alloc (.cells #[.int .i64 2] 3)) h0 (by show op≤255;omega) (htab.on (h.rdr.be.trans ((alloc_below w _).mono h.rdr.be.size))) (ints_one (cell_new _ _ _ _ rfl) (size_new _ _ _ rfl)) (by show 1≤1000;omega) ⟨_,_,_,rfl⟩)
 rw [show ixV (askX op) (.slice (some ⟨w.heap.size,0,none⟩) 1 1) (.slice none 0 0)=.agg #[.int .u8 op,.int .i64 0,.int .i64 0,.int .i64 1,.int .i64 0,.slice (some ⟨w.heap.size,0,none⟩) 1 1,.slice none 0 0] from rfl] at HUS
 unfold OwnI at HUS
 have HA1:=hid hA1
 have f0:w.cell? ⟨bx,0,none⟩=some (.int .u8 op):=h.facts.1.1
 have hbx:=h.lt
 clear h hA1 htab h0 h22
 go_enter Tryz.func208,Tryz.ntmps208
 go_wp2_with fail
 refine HUS.out.mono ?_
 rintro e w1 ⟨uv,un,rfl,huo,hb1⟩
 have hun:un=(usesOf (askX op)).length:=by have:=huo.1;rw [intVals_length] at this;omega
 subst hun
 have HS1:=hid (HA1.out.on hb1)
 have HQ1:Hid (AskS w op uv (.slice none 0 0) (.slice none 0 0) w1):=⟨owns_base huo (by simp),(fun g h1 h2=>by cases h2),(fun g h1 h2=>by cases h2)⟩
 obtain ⟨ua,uc,rfl⟩:=own_form huo
 clear huo hb1 HUS HA1 f0
 go_wp2_with fail
 have HC:=hid (contains_calls _ _ 0 w1 HQ1.out.ints)
 rw [ask_A,HFA.out] at HC
 refine HC.out.mono ?_
 rintro e w' ⟨rfl,rfl⟩
 clear HC
 go_wp2_with fail
 refine (mark_yes (c:=114) HS1.out.rdr HA.out).mono ?_
 rintro e w2 ⟨rfl,hr,hk⟩
 have hs:=HS1.out.go hr hk
 have hq:=HQ1.out.go HS1.out.rdr hk
 obtain ⟨⟨_,_,g2,g3,_⟩,gz⟩:=hs.facts
 have gz2:=gz 2
 obtain ⟨w3,hX⟩:∃ X,X=w2.setCell ⟨bx,2,none⟩ (.int .i64 qa):=⟨_,rfl⟩
 have HX:=hid hX
 have HS3:Hid (HasS W b L l1 reg tv w bx ⟨op,typ,qa,0,0,[],[]⟩ (.slice none 0 0) (.slice none 0 0) w3):=by show HasS _ _ _ _ _ _ _ _ _ _ _ _;rw [hX];exact hs.set (hs.box.setA qa)
 have HQ3:Hid (AskS w op (.slice ua (usesOf (askX op)).length uc) (.slice none 0 0) (.slice none 0 0) w3):=by show AskS _ _ _ _ _ _;rw [hX];exact hq.set hs.box _
 have HF0:Hid (w3.cell? ⟨bx,0,none⟩=some (.int .u8 op)):=HS3.out.facts.1.1
 have f0:=HF0.out
 clear hr hk hs hq gz hX HS1 HQ1
 rw [HX.out] at f0
 go_wp2_with fail
 rw [← HX.out]
 clear f0 g2 g3 gz2 HX
 have HC:=hid (contains_calls _ _ 1 w3 HQ3.out.ints)
 rw [ask_B,HFB.out] at HC
 refine HC.out.mono ?_
 rintro e w' ⟨rfl,rfl⟩
 clear HC
 have f0:=HF0.out
 go_wp2_with fail
 clear f0
 refine (number_yes HS3.out.rdr HN.out).mono ?_
 rintro e w4 ⟨rfl,hr,hk⟩
 have hs:=HS3.out.go hr hk
 have hq:=HQ3.out.go HS3.out.rdr hk
 have g4:=hs.facts.1.2.2.2.2.1
 have gz4:=hs.facts.2 4
 obtain ⟨w5,hX⟩:∃ X,X=w4.setCell ⟨bx,4,none⟩ (.int .i64 qn):=⟨_,rfl⟩
 have HX:=hid hX
 have HSM:Hid (HasS W b L l3 reg tv w bx ⟨op,typ,qa,0,qn,[],[]⟩ (.slice none 0 0) (.slice none 0 0) w5):=by show HasS _ _ _ _ _ _ _ _ _ _ _ _;rw [hX];exact hs.set (hs.box.setN qn)
 have HQM:Hid (AskS w op (.slice ua (usesOf (askX op)).length uc) (.slice none 0 0) (.slice none 0 0) w5):=by show AskS _ _ _ _ _ _;rw [hX];exact hq.set hs.box _
 have HL3:=hid hr.fw.1
 clear hr hk hs hq hX HS3 HQ3 HF0
 go_wp2_with fail
 rw [← HX.out]
 clear g4 gz4 HX
 go_loopg [] l3.length (fun gk wr=>∃ (k:Nat) (xs:List Int) (va:Value),k+gk=l3.length∧xs.length=k∧marksO 114 l3=(marksO 114 (l3.drop k)).map (xs ++ ·)∧HasS W b L (l3.drop k) reg tv w bx ⟨op,typ,qa,0,qn,xs,[]⟩ va (.slice none 0 0) wr∧AskS w op (.slice ua (usesOf (askX op)).length uc) va (.slice none 0 0) wr)
 case atStart=>exact ⟨0,[],_,by omega,rfl,by simp,HSM.out,HQM.out⟩
 case round =>
  obtain ⟨k,xs,va,hk,hxk,hm,hs,hq⟩:=hrel
  clear HSM HQM
  obtain ⟨pa,pc,hpa0⟩:=own_form hs.box.owa
  have hpa:va=.slice pa xs.length pc:=by simpa using hpa0
  clear hpa0
  subst hpa
  have HK:=hid hk
  have HXK:=hid hxk
  obtain ⟨la,lc,wa,wc,c0,c1,c2,c3,hfz,_,_,hb,_,hwn⟩:=hs.rdr.facts
  have f0:wr.cell? ⟨bx,0,none⟩=some (.int .u8 op):=hs.facts.1.1
  have hop:=HOP.out
  clear c0 c2 c3 hfz hk hxk
  cases hd:l3.drop k with
  | nil =>
   rw [hd] at hm c1 hs
   have HQQ:=hid (HY.out xs (by rw [hm];simp [marksO]))
   have HS1:=hid hs
   have HQ1:=hid hq
   clear hd hs hq hm
   go_wp2_with fail
   have HC:=hid (contains_calls _ _ 2 wr HQ1.out.ints)
   rw [ask_R,HFR.out] at HC
   refine HC.out.mono ?_
   rintro e w' ⟨rfl,rfl⟩
   clear HC
   go_wp2
   go_end0
   exact HQQ.out _ _ ⟨rfl,_,_,HS1.out⟩
  | cons x l =>
   have hlt:k < l3.length:=by
    have:=congrArg List.length hd
    rw [List.length_drop] at this
    simp at this
    omega
   have HLT:=hid hlt
   have h0:(0:Int) < ((x :: l).length:Int):=by simp only [List.length_cons];omega
   clear hlt
   have HDK:Hid (l3.drop (k+1)=l):=by
    show List.drop _ _=_
    have:=List.drop_drop (i:=1) (j:=k) (l:=l3)
    rw [hd] at this
    simpa [Nat.add_comm] using this.symm
   rw [hd] at hm c1 hs hwn
   clear hd
   have HS1:=hid hs
   have HQ1:=hid hq
   clear hs hq
   by_cases hq1:(mkN x 114).2=0
   rotate_left
   ·have HQQ:=hid (HNN.out (by rw [hm];simp [marksO,hq1]))
    have HMK:=hid (show markC 114 (x :: l)=none by rw [markC_cons,if_neg hq1])
    clear hm hq1
    generalize hn1:(x :: l).length=n1 at *
    clear hn1
    go_wp2_with fail
    have HC:=hid (contains_calls _ _ 2 wr HQ1.out.ints)
    rw [ask_R,HFR.out] at HC
    refine HC.out.mono ?_
    rintro e w' ⟨rfl,rfl⟩
    clear HC
    go_upto_region 9 with fail
    clear c1 f0 h0 hwn
    have HD:=hid HS1.out.draw
    have HV0:Hid (wr.drew.cell? ⟨bx,5,none⟩=some (.slice pa xs.length pc)):=HD.out.facts.1.2.2.2.2.2.1
    have HC:=hid (mark_no (c:=114) HD.out.rdr HMK.out)
    rw [show (((114:UInt8).toNat:Nat):Int)=114 from rfl] at HC
    unfold Out at HC
    refine wp_region_Z (S:=(fun w'=>w'.cell? ⟨bx,5,none⟩=some (.slice pa xs.length pc))) (Z:=[11]) (by kernel_rfl) ?_ (fun hHeld=>?_)
    ·(try dsimp only)
     exact HV0.out
    refine zP 0 rfl ?_
    refine zP 1 rfl ?_
    refine zP 2 rfl ?_
    refine zP 3 rfl ?_
    refine zT 4 rfl ?_
    refine zP 5 rfl ?_
    refine zC 6 rfl (fun K hK=>?_)
    go_simp
    (go_at_call 150)
    refine HC.out.mono ?_
    rintro e w9 ⟨rfl,hk⟩
    have HK9:=hid (HD.out.kept.trans (hk.mono (F:=[b,bx]) (by simp)))
    clear hk
    exact ⟨rfl,HQQ.out _ _ ⟨rfl,HK9.out⟩⟩
   have HMK:=hid (show markC 114 (x :: l)=some ((mkN x 114).1,l) by rw [markC_cons,if_pos hq1])
   have HM2:Hid (marksO 114 l3=(marksO 114 l).map ((xs++[(mkN x 114).1]) ++ ·)):=by show _=_;rw [hm];simp [marksO,hq1,Function.comp_def]
   clear hm hq1
   generalize (mkN x 114).1=q at *
   generalize hn1:(x :: l).length=n1 at *
   clear hn1
   go_wp2_with fail
   have HC:=hid (contains_calls _ _ 2 wr HQ1.out.ints)
   rw [ask_R,HFR.out] at HC
   refine HC.out.mono ?_
   rintro e w' ⟨rfl,rfl⟩
   clear HC
   go_upto_region 9 with fail
   clear c1 f0 h0 hwn
   have HD:=hid HS1.out.draw
   have HV0:Hid (wr.drew.cell? ⟨bx,5,none⟩=some (.slice pa xs.length pc)):=HD.out.facts.1.2.2.2.2.2.1
   have HE:=hid (HQ1.out.on ((Below.refl _ wr).drew))
   have HC:=hid (mark_yes (c:=114) HD.out.rdr HMK.out)
   rw [show (((114:UInt8).toNat:Nat):Int)=114 from rfl] at HC
   unfold Goes at HC
   refine wp_region_noPanic ?_
   refine wp_region_Z (S:=(fun w'=>w'.cell? ⟨bx,5,none⟩=some (.slice pa xs.length pc))) (Z:=[11]) (by kernel_rfl) ?_ (fun hHeld=>?_)
   ·(try dsimp only)
    exact HV0.out
   refine zP 0 rfl ?_
   refine zP 1 rfl ?_
   refine zP 2 rfl ?_
   refine zP 3 rfl ?_
   refine zT 4 rfl ?_
   refine zP 5 rfl ?_
   refine zC 6 rfl (fun K hK=>?_)
   go_simp
   (go_at_call 150;(with_reducible refine HC.out.mono ?_);rintro e w1 ⟨rfl,hr1,hk1⟩;have HS1a:=hid (HD.out.go hr1 hk1);have HS2:=hid (HS1a.out.on (alloc_below w1 (.cells #[.int .i64 q] 3)));have HQ2:=hid ((HE.out.go HD.out.rdr hk1).on (alloc_below w1 (.cells #[.int .i64 q] 3)));have HV1:Hid (w1.cell? ⟨bx,5,none⟩=some (.slice pa xs.length pc)):=HS1a.out.facts.1.2.2.2.2.2.1;have HV2:Hid ((w1.alloc (.cells #[.int .i64 q] 3)).cell? ⟨bx,5,none⟩=some (.slice pa xs.length pc)):=HS2.out.facts.1.2.2.2.2.2.1;clear hr1 hk1 HC HS1a)
   refine hK.out _ _ ?_ (fun hHeld=>?_)
   ·(try dsimp only)
    exact HV1.out
   clear hK K
   refine zC 7 rfl (fun K hK=>?_)
   go_simp
   refine hK.out _ _ ?_ (fun hHeld=>?_)
   ·(try dsimp only)
    exact HV2.out
   clear hK K
   refine zC 8 rfl (fun K hK=>?_)
   rw [if_pos (by rfl)]
   have hcc:(w1.alloc (.cells #[.int .i64 q] 3)).cell? ⟨w1.heap.size,0,none⟩=some (.int .i64 q):=cell_new _ _ _ _ rfl
   have hsz:w.heap.size≤(w1.alloc (.cells #[.int .i64 q] 3)).heap.size:=HS2.out.kept.size
   refine wp_append_int1 (.tmp 66) (.tmp 69) rfl w.heap.size (.slice pa xs.length pc) rfl _ _ HS2.out.box.owa (by have:=HXK.out;have:=HLT.out;have:=HL3.out;simp;omega) w1.heap.size q rfl hcc hsz ?_
   intro v5 w5 h5 hg5 hn5
   obtain ⟨g1,g2⟩:=HS2.out.growA h5 hg5 hn5
   have hq5:=HQ2.out.growA hg5 hn5 g1
   obtain ⟨p5,c5,h50⟩:=own_form h5
   have h55:v5=.slice p5 (xs.length+1) c5:=by simpa using h50
   clear h50
   subst h55
   have HS5:=hid g2
   have HQ5:=hid hq5
   have HB5:=hid g1
   have HV5:Hid (w5.cell? ⟨bx,5,none⟩=some (.slice pa xs.length pc)):=cells_of g1 5 _ rfl
   clear h5 hg5 hn5 g1 g2 hq5 hcc hsz
   refine hK.out _ _ ?_ (fun hHeld=>?_)
   ·(try dsimp only)
    exact HV5.out
   clear hK K
   refine zP 9 rfl ?_
   refine zP 10 rfl ?_
   refine zL 11 rfl (fun K hK=>?_)
   have zz:=(ShTB.cells_heap HB5.out).2 5
   have yy:=HV5.out
   go_simp
   refine hK.out _ _ ?_
   clear hK K
   refine wpAnyZ_done (by kernel_rfl) ?_ _
   refine NoPanic.normal ?_
   go_wp2
   go_roundg (gk - 1)
   case measure=>have:=HK.out;have:=HLT.out;omega
   case rel=>exact ⟨k+1,xs++[q],_,by have:=HK.out;have:=HLT.out;omega,by have:=HXK.out;simp;omega,by rw [HDK.out];exact HM2.out,by rw [HDK.out];exact HS5.out,HQ5.out⟩
theorem has_args10 {bx:Nat} {op typ:Int} (h:HasS W b L ws reg tv w bx (ix0 op typ) (.slice none 0 0) (.slice none 0 0) w) (htab:ShA.Tab W) (h0:0≤op) (h22:op≤22) (fA:hasAB op=true) (fB:twoB op=false) {qa:Int} {l1:Ln} (hA:markC 114 ws=some (qa,l1)) {qn:Int} {l3:Ln} (hN:numC op l1=some (qn,l3)) (fR:argsB op=true) (ho:(op == 22)=false) {r:List Int} (hR:marksO 114 l3=some r) :
  Calls Tryz.prog 208 #[.pointer (some ⟨b,0,none⟩),.pointer (some ⟨bx,0,none⟩)] w (HasO W b L [] reg tv bx ⟨op,typ,qa,0,qn,r,[]⟩ w):=by
 exact has_args10W h htab h0 h22 fA fB hA hN fR ho (fun r2 h2=>by cases hR.symm.trans h2;exact fun _ _ h=>h) (fun h2=>by cases hR.symm.trans h2)
theorem has_args10_no {bx:Nat} {op typ:Int} (h:HasS W b L ws reg tv w bx (ix0 op typ) (.slice none 0 0) (.slice none 0 0) w) (htab:ShA.Tab W) (h0:0≤op) (h22:op≤22) (fA:hasAB op=true) (fB:twoB op=false) {qa:Int} {l1:Ln} (hA:markC 114 ws=some (qa,l1)) {qn:Int} {l3:Ln} (hN:numC op l1=some (qn,l3)) (fR:argsB op=true) (ho:(op == 22)=false) (hR:marksO 114 l3=none) :
  Calls Tryz.prog 208 #[.pointer (some ⟨b,0,none⟩),.pointer (some ⟨bx,0,none⟩)] w (Out2 b bx w):=by
 exact has_args10W h htab h0 h22 fA fB hA hN fR ho (fun r2 h2=>by cases hR.symm.trans h2) (fun _ _ _ h=>h)
theorem has_none11 {bx:Nat} {op typ:Int} (h:HasS W b L ws reg tv w bx (ix0 op typ) (.slice none 0 0) (.slice none 0 0) w) (htab:ShA.Tab W) (h0:0≤op) (h22:op≤22) (fA:hasAB op=true) (fB:twoB op=true) {qa:Int} {l1:Ln} (hA:markC 114 ws=some (qa,l1)) {qb:Int} {l2:Ln} (hB:markC 114 l1=some (qb,l2)) {qn:Int} {l3:Ln} (hN:numC op l2=some (qn,l3)) (fR:argsB op=false) :
  Calls Tryz.prog 208 #[.pointer (some ⟨b,0,none⟩),.pointer (some ⟨bx,0,none⟩)] w (HasO W b L l3 reg tv bx ⟨op,typ,qa,qb,qn,[],[]⟩ w):=by
 have HFA:=hid fA
 clear fA
 have HFB:=hid fB
 clear fB
 have HA:=hid hA
 clear hA
 have HB:=hid hB
 clear hB
 have HN:=hid hN
 clear hN
 have HFR:=hid fR
 clear fR
 have hA1:=h.on (alloc_below w (.cells #[.int .i64 2] 3))
 have HUS:=hid (ShU.uses_calls (askX op) (.slice (some ⟨w.heap.size,0,none⟩) 1 1) (.slice none 0 0) (w.alloc (.cells #[.int .i64 2] 3)) h0 (by show op≤255;omega) (htab.on (h.rdr.be.trans ((alloc_below w _).mono h.rdr.be.size))) (ints_one (cell_new _ _ _ _ rfl) (size_new _ _ _ rfl)) (by show 1≤1000;omega) ⟨_,_,_,rfl⟩)
 rw [show ixV (askX op) (.slice (some ⟨w.heap.size,0,none⟩) 1 1) (.slice none 0 0)=.agg #[.int .u8 op,.int .i64 0,.int .i64 0,.int .i64 1,.int .i64 0,.slice (some ⟨w.heap.size,0,none⟩) 1 1,.slice none 0 0] from rfl] at HUS
 unfold OwnI at HUS
 have HA1:=hid hA1
 have f0:w.cell? ⟨bx,0,none⟩=some (.int .u8 op):=h.facts.1.1
 have hbx:=h.lt
 clear h hA1 htab h0 h22
 go_enter Tryz.func208,Tryz.ntmps208
 go_wp2_with fail
 refine HUS.out.mono ?_
 rintro e w1 ⟨uv,un,rfl,huo,hb1⟩
 have hun:un=(usesOf (askX op)).length:=by have:=huo.1;rw [intVals_length] at this;omega
 subst hun
 have HS1:=hid (HA1.out.on hb1)
 have HQ1:Hid (AskS w op uv (.slice none 0 0) (.slice none 0 0) w1):=⟨owns_base huo (by simp),(fun g h1 h2=>by cases h2),(fun g h1 h2=>by cases h2)⟩
 obtain ⟨ua,uc,rfl⟩:=own_form huo
 clear huo hb1 HUS HA1 f0
 go_wp2_with fail
 have HC:=hid (contains_calls _ _ 0 w1 HQ1.out.ints)
 rw [ask_A,HFA.out] at HC
 refine HC.out.mono ?_
 rintro e w' ⟨rfl,rfl⟩
 clear HC
 go_wp2_with fail
 refine (mark_yes (c:=114) HS1.out.rdr HA.out).mono ?_
 rintro e w2 ⟨rfl,hr,hk⟩
 have hs:=HS1.out.go hr hk
 have hq:=HQ1.out.go HS1.out.rdr hk
 obtain ⟨⟨_,_,g2,g3,_⟩,gz⟩:=hs.facts
 have gz2:=gz 2
 obtain ⟨w3,hX⟩:∃ X,X=w2.setCell ⟨bx,2,none⟩ (.int .i64 qa):=⟨_,rfl⟩
 have HX:=hid hX
 have HS3:Hid (HasS W b L l1 reg tv w bx ⟨op,typ,qa,0,0,[],[]⟩ (.slice none 0 0) (.slice none 0 0) w3):=by show HasS _ _ _ _ _ _ _ _ _ _ _ _;rw [hX];exact hs.set (hs.box.setA qa)
 have HQ3:Hid (AskS w op (.slice ua (usesOf (askX op)).length uc) (.slice none 0 0) (.slice none 0 0) w3):=by show AskS _ _ _ _ _ _;rw [hX];exact hq.set hs.box _
 have HF0:Hid (w3.cell? ⟨bx,0,none⟩=some (.int .u8 op)):=HS3.out.facts.1.1
 have f0:=HF0.out
 clear hr hk hs hq gz hX HS1 HQ1
 rw [HX.out] at f0
 go_wp2_with fail
 rw [← HX.out]
 clear f0 g2 g3 gz2 HX
 have HC:=hid (contains_calls _ _ 1 w3 HQ3.out.ints)
 rw [ask_B,HFB.out] at HC
 refine HC.out.mono ?_
 rintro e w' ⟨rfl,rfl⟩
 clear HC
 go_wp2_with fail
 clear HF0
 refine (mark_yes (c:=114) HS3.out.rdr HB.out).mono ?_
 rintro e w4 ⟨rfl,hr,hk⟩
 have hs:=HS3.out.go hr hk
 have hq:=HQ3.out.go HS3.out.rdr hk
 obtain ⟨⟨_,_,g2,g3,_⟩,gz⟩:=hs.facts
 have gz3:=gz 3
 obtain ⟨w5,hX⟩:∃ X,X=w4.setCell ⟨bx,3,none⟩ (.int .i64 qb):=⟨_,rfl⟩
 have HX:=hid hX
 have HS5:Hid (HasS W b L l2 reg tv w bx ⟨op,typ,qa,qb,0,[],[]⟩ (.slice none 0 0) (.slice none 0 0) w5):=by show HasS _ _ _ _ _ _ _ _ _ _ _ _;rw [hX];exact hs.set (hs.box.setB qb)
 have HQ5:Hid (AskS w op (.slice ua (usesOf (askX op)).length uc) (.slice none 0 0) (.slice none 0 0) w5):=by show AskS _ _ _ _ _ _;rw [hX];exact hq.set hs.box _
 have HF0:Hid (w5.cell? ⟨bx,0,none⟩=some (.int .u8 op)):=HS5.out.facts.1.1
 have f0:=HF0.out
 clear hr hk hs hq gz hX HS3 HQ3
 rw [HX.out] at f0
 go_wp2_with fail
 rw [← HX.out]
 clear f0 g2 g3 gz3 HX
 refine (number_yes HS5.out.rdr HN.out).mono ?_
 rintro e w6 ⟨rfl,hr,hk⟩
 have hs:=HS5.out.go hr hk
 have hq:=HQ5.out.go HS5.out.rdr hk
 have g4:=hs.facts.1.2.2.2.2.1
 have gz4:=hs.facts.2 4
 obtain ⟨w7,hX⟩:∃ X,X=w6.setCell ⟨bx,4,none⟩ (.int .i64 qn):=⟨_,rfl⟩
 have HX:=hid hX
 have HSM:Hid (HasS W b L l3 reg tv w bx ⟨op,typ,qa,qb,qn,[],[]⟩ (.slice none 0 0) (.slice none 0 0) w7):=by show HasS _ _ _ _ _ _ _ _ _ _ _ _;rw [hX];exact hs.set (hs.box.setN qn)
 have HQM:Hid (AskS w op (.slice ua (usesOf (askX op)).length uc) (.slice none 0 0) (.slice none 0 0) w7):=by show AskS _ _ _ _ _ _;rw [hX];exact hq.set hs.box _
 have HL3:=hid hr.fw.1
 clear hr hk hs hq hX HS5 HQ5 HF0
 go_wp2_with fail
 rw [← HX.out]
 clear g4 gz4 HX
 go_loopg [] 0 (fun gk wr=>wr=w7)
 case atStart=>rfl
 case round =>
  subst hrel
  go_wp2_with fail
  have HC:=hid (contains_calls _ _ 2 _ HQM.out.ints)
  rw [ask_R,HFR.out] at HC
  refine HC.out.mono ?_
  rintro e w' ⟨rfl,rfl⟩
  clear HC
  go_wp2
  go_end0
  exact ⟨rfl,_,_,HSM.out⟩
end Go.Proofs.YtpejpnffcepdlaaGreatDoor.RcJ
namespace Go.Proofs.YtpejpnffcepdlaaGreatDoor.RcK
open Go.RowKit Go.Lib TyM TyP ShM ShP ShB IntO SetP LxM LxJ LxY RwO RdM RdN RdV RdB RdP Fresh Aft RcP RcA RcB RcC RcD RcT RcN RcU RcH RcI RcJ

variable {W:World} {b:Nat} {L:List Ln} {ws:Ln} {reg:Int} {tv:Value} {w:World}

theorem rest_some {op typ a c:Int} {l:Ln} {y:Ix} {ws' : Ln} (h:restC op typ a c l=some (y,ws')):∃ n l3,numC op l=some (n,l3) ∧
  ((argsB op=false∧y=⟨op,typ,a,c,n,[],[]⟩∧ws'=l3)∨(argsB op=true∧op≠22∧∃ r,marksO 114 l3=some r∧y=⟨op,typ,a,c,n,r,[]⟩∧ws'=[]) ∨
   (argsB op=true∧op=22∧∃ r,pairsO l3=some r∧y=⟨op,typ,a,c,n,r.map Prod.snd,r.map Prod.fst⟩∧ws'=[])):=by
 unfold restC at h
 cases hn:numC op l with
 | none=>rw [hn] at h;cases h
 | some q =>
  obtain ⟨n,l3⟩:=q
  rw [hn] at h
  simp only at h
  refine ⟨n,l3,rfl,?_⟩
  unfold argC at h
  cases hr:argsB op with
  | false =>
   rw [hr] at h
   simp at h
   exact .inl ⟨rfl,h.1.symm,h.2.symm⟩
  | true =>
   rw [hr] at h
   simp only [if_true] at h
   by_cases h22:op=22
   ·rw [if_pos h22] at h
    cases hp:pairsO l3 with
    | none=>rw [hp] at h;cases h
    | some r =>
     rw [hp] at h
     simp at h
     exact .inr (.inr ⟨rfl,h22,r,rfl,h.1.symm,h.2⟩)
   ·rw [if_neg h22] at h
    cases hp:marksO 114 l3 with
    | none=>rw [hp] at h;cases h
    | some r =>
     rw [hp] at h
     simp at h
     exact .inr (.inl ⟨rfl,h22,r,rfl,h.1.symm,h.2⟩)
theorem rest_none {op typ a c:Int} {l:Ln} (h:restC op typ a c l=none):numC op l=none∨∃ n l3,numC op l=some (n,l3)∧argsB op=true∧((op≠22∧marksO 114 l3=none)∨(op=22∧pairsO l3=none)):=by
 unfold restC at h
 cases hn:numC op l with
 | none=>exact .inl rfl
 | some q =>
  obtain ⟨n,l3⟩:=q
  rw [hn] at h
  simp only at h
  refine .inr ⟨n,l3,rfl,?_⟩
  unfold argC at h
  cases hr:argsB op with
  | false=>rw [hr] at h;simp at h
  | true =>
   rw [hr] at h
   simp only [if_true] at h
   refine ⟨rfl,?_⟩
   by_cases h22:op=22
   ·rw [if_pos h22] at h
    cases hp:pairsO l3 with
    | none=>exact .inr ⟨h22,rfl⟩
    | some r=>rw [hp] at h;simp at h
   ·rw [if_neg h22] at h
    cases hp:marksO 114 l3 with
    | none=>exact .inl ⟨h22,rfl⟩
    | some r=>rw [hp] at h;simp at h
theorem two_args {op:Int} (h:twoB op=true):argsB op=false:=by
 unfold twoB at h
 unfold argsB
 simp at h ⊢
 omega
theorem ab_phi {op:Int} (h:hasAB op=true):(op == 22)=false:=by
 unfold hasAB twoB at h
 simp at h ⊢
 omega
theorem has_yes {bx:Nat} {op typ:Int} {y:Ix} {ws' : Ln} (h:HasS W b L ws reg tv w bx (ix0 op typ) (.slice none 0 0) (.slice none 0 0) w) (htab:ShA.Tab W) (h0:0≤op) (h22:op≤22) (hm:hasC op typ ws=some (y,ws')) :
  Calls Tryz.prog 208 #[.pointer (some ⟨b,0,none⟩),.pointer (some ⟨bx,0,none⟩)] w (HasO W b L ws' reg tv bx y w):=by
 unfold hasC aC at hm
 cases hA:hasAB op with
 | false =>
  have hB:twoB op=false:=by
   cases hB:twoB op with
   | false=>rfl
   | true=>rw [two_ab hB] at hA;cases hA
  rw [hA,hB] at hm
  simp only [Bool.false_eq_true,if_false] at hm
  obtain ⟨n,l3,hN,⟨hR,rfl,rfl⟩ | ⟨hR,ho,r,hr,rfl,rfl⟩ | ⟨hR,ho,r,hr,rfl,rfl⟩⟩:=rest_some hm
  ·exact has_none00 h htab h0 h22 hA hB hN hR
  ·exact has_args00 h htab h0 h22 hA hB hN hR (by simpa using ho) hr
  ·exact has_phi00 h htab h0 h22 hA hB hN hR (by simpa using ho) hr
 | true =>
  rw [hA] at hm
  simp only [if_true] at hm
  cases hq:markC 114 ws with
  | none=>rw [hq] at hm;cases hm
  | some q =>
   obtain ⟨a,l1⟩:=q
   rw [hq] at hm
   simp only at hm
   cases hB:twoB op with
   | false =>
    rw [hB] at hm
    simp only [Bool.false_eq_true,if_false] at hm
    obtain ⟨n,l3,hN,⟨hR,rfl,rfl⟩ | ⟨hR,ho,r,hr,rfl,rfl⟩ | ⟨hR,ho,r,hr,rfl,rfl⟩⟩:=rest_some hm
    ·exact has_none10 h htab h0 h22 hA hB hq hN hR
    ·exact has_args10 h htab h0 h22 hA hB hq hN hR (by simpa using ho) hr
    ·have:=ab_phi hA
     simp [ho] at this
   | true =>
    rw [hB] at hm
    simp only [if_true] at hm
    cases hq2:markC 114 l1 with
    | none=>rw [hq2] at hm;cases hm
    | some q =>
     obtain ⟨c,l2⟩:=q
     rw [hq2] at hm
     simp only at hm
     obtain ⟨n,l3,hN,⟨hR,rfl,rfl⟩ | ⟨hR,ho,r,hr,rfl,rfl⟩ | ⟨hR,ho,r,hr,rfl,rfl⟩⟩:=rest_some hm
     ·exact has_none11 h htab h0 h22 hA hB hq hq2 hN hR
     ·rw [two_args hB] at hR;cases hR
     ·rw [two_args hB] at hR;cases hR
theorem has_no {bx:Nat} {op typ:Int} (h:HasS W b L ws reg tv w bx (ix0 op typ) (.slice none 0 0) (.slice none 0 0) w) (htab:ShA.Tab W) (h0:0≤op) (h22:op≤22) (hm:hasC op typ ws=none) :
  Calls Tryz.prog 208 #[.pointer (some ⟨b,0,none⟩),.pointer (some ⟨bx,0,none⟩)] w (Out2 b bx w):=by
 unfold hasC aC at hm
 cases hA:hasAB op with
 | false =>
  have hB:twoB op=false:=by
   cases hB:twoB op with
   | false=>rfl
   | true=>rw [two_ab hB] at hA;cases hA
  rw [hA,hB] at hm
  simp only [Bool.false_eq_true,if_false] at hm
  rcases rest_none hm with hN | ⟨n,l3,hN,hR,⟨ho,hr⟩ | ⟨ho,hr⟩⟩
  ·exact has_noN00 h htab h0 h22 hA hB hN
  ·exact has_args00_no h htab h0 h22 hA hB hN hR (by simpa using ho) hr
  ·exact has_phi00_no h htab h0 h22 hA hB hN hR (by simpa using ho) hr
 | true =>
  rw [hA] at hm
  simp only [if_true] at hm
  cases hq:markC 114 ws with
  | none=>exact has_noA h htab h0 h22 hA hq
  | some q =>
   obtain ⟨a,l1⟩:=q
   rw [hq] at hm
   simp only at hm
   cases hB:twoB op with
   | false =>
    rw [hB] at hm
    simp only [Bool.false_eq_true,if_false] at hm
    rcases rest_none hm with hN | ⟨n,l3,hN,hR,⟨ho,hr⟩ | ⟨ho,hr⟩⟩
    ·exact has_noN10 h htab h0 h22 hA hB hq hN
    ·exact has_args10_no h htab h0 h22 hA hB hq hN hR (by simpa using ho) hr
    ·have:=ab_phi hA
     simp [ho] at this
   | true =>
    rw [hB] at hm
    simp only [if_true] at hm
    cases hq2:markC 114 l1 with
    | none=>exact has_noB h htab h0 h22 hA hB hq hq2
    | some q =>
     obtain ⟨c,l2⟩:=q
     rw [hq2] at hm
     simp only at hm
     rcases rest_none hm with hN | ⟨n,l3,hN,hR,_⟩
     ·exact has_noN11 h htab h0 h22 hA hB hq hq2 hN
     ·rw [two_args hB] at hR;cases hR
end Go.Proofs.YtpejpnffcepdlaaGreatDoor.RcK
namespace Go.Proofs.YtpejpnffcepdlaaGreatDoor.RcL
open Go.RowKit Go.Lib TyM TyP ShM ShP ShB IntO SetP LxM LxJ LxY RwO RdM RdN RdV RdB RdP Fresh Aft RcP RcA RcB RcC RcD RcT RcH RcI RcK

variable {W:World} {b:Nat} {L:List Ln} {ws:Ln} {reg:Int} {tv:Value} {w:World}

structure InsS (W:World) (b:Nat) (L:List Ln) (ws:Ln) (reg:Int) (tv:Value) (w:World) (bx:Nat) (x:Ix) (va vf:Value) (wr:World):Prop where
 rdr:Rdr W b L ws reg tv wr
 kept:Kept [b] w wr
 res:wr.heap[w.heap.size]?=some (.cells #[.int .u8 0,.int .i64 0,.int .i64 0,.int .i64 0,.int .i64 0,.slice none 0 0,.slice none 0 0] 31 (0,0))
 box:BoxH w.heap.size bx x va vf wr
 nb:b < w.heap.size
 lo:W.heap.size≤w.heap.size
 lt:w.heap.size < bx
theorem InsS.go {bx:Nat} {x:Ix} {va vf:Value} {wr w' : World} {ws' : Ln} {L' : List Ln} {reg' : Int} (h:InsS W b L ws reg tv w bx x va vf wr) (hr:Rdr W b L' ws' reg' tv w') (hk:Kept [b] wr w'):InsS W b L' ws' reg' tv w bx x va vf w' :=
 ⟨hr,h.kept.trans hk,hk.heap h.res (fun e=>by have:=List.mem_singleton.1 e;have:=h.nb;omega),h.box.go h.rdr (by have:=h.nb;have:=h.lt;omega) hk,h.nb,h.lo,h.lt⟩
theorem InsS.on {bx:Nat} {x:Ix} {va vf:Value} {wr w' : World} (h:InsS W b L ws reg tv w bx x va vf wr) (hk:Below wr.heap.size wr w'):InsS W b L ws reg tv w bx x va vf w':=h.go (h.rdr.on hk) (kept_below hk)
theorem InsS.draw {bx:Nat} {x:Ix} {va vf:Value} {wr:World} (h:InsS W b L ws reg tv w bx x va vf wr):InsS W b L ws reg tv w bx x va vf wr.drew:=h.on ((Below.refl _ wr).drew)
theorem InsS.set {bx i:Nat} {x y:Ix} {va vf:Value} {wr:World} (h:InsS W b L ws reg tv w bx x va vf wr) {u:Value} (hb:BoxH w.heap.size bx y va vf (wr.setCell ⟨bx,i,none⟩ u)):InsS W b L ws reg tv w bx y va vf (wr.setCell ⟨bx,i,none⟩ u):=by
 have h1:=h.nb;have h2:=h.lt;have h3:=h.lo
 have hk:Kept [bx] wr (wr.setCell ⟨bx,i,none⟩ u):=(Kept.refl [bx] wr).set (.inl (by simp)) u
 exact ⟨Rdr_one h.rdr hk (by omega) (by omega),Kept_new h.kept hk (by omega),hk.heap h.res (fun e=>by have:=List.mem_singleton.1 e;omega),hb,h1,h3,h2⟩
theorem InsS.regs {bx:Nat} {x:Ix} {va vf:Value} {wr:World} (h:InsS W b L ws reg tv w bx x va vf wr) (q:Int):InsS W b L ws q tv w bx x va vf (wr.setCell ⟨b,2,none⟩ (.int .i64 q)) :=
 h.go (h.rdr.regs q) ((Kept.refl [b] wr).set (.inl (by simp)) _)
theorem InsS.has {bx:Nat} {op typ:Int} {wr:World} (h:InsS W b L ws reg tv w bx (ix0 op typ) (.slice none 0 0) (.slice none 0 0) wr):HasS W b L ws reg tv wr bx (ix0 op typ) (.slice none 0 0) (.slice none 0 0) wr :=
 ⟨h.rdr,Kept.refl _ _,⟨h.box.box,World.ownsRow_nil _ _ _ _,World.ownsRow_nil _ _ _ _,fun g hg=>by cases hg⟩,by have:=h.nb;have:=h.lt;omega,by have:=h.lo;have:=h.lt;omega,(Array.getElem?_eq_some_iff.1 h.box.box).1⟩
theorem kept_two {bx:Nat} {a wr w' : World} (h:Kept [b] a wr) (k:Kept [b,bx] wr w') (hn:a.heap.size≤bx):Kept [b] a w' :=
 ((h.mono (F:=[bx,b]) (by simp)).trans (k.mono (F:=[bx,b]) (by simp))).new hn
theorem InsS.back {bx:Nat} {x y:Ix} {va vf:Value} {wr w' : World} {ws' : Ln} {v1 v2:Value} (h:InsS W b L ws reg tv w bx x v1 v2 wr) (k:HasS W b L ws' reg tv wr bx y va vf w'):InsS W b L ws' reg tv w bx y va vf w':=by
 have h1:=h.nb;have h2:=h.lt;have h3:=h.kept.size
 exact ⟨k.rdr,kept_two h.kept k.kept (by omega),k.kept.heap h.res (by simp;omega),⟨k.box.box,owns_base k.box.owa h3,owns_base k.box.owf h3,k.box.apart⟩,h1,h.lo,h2⟩
theorem InsS.facts {bx:Nat} {x:Ix} {va vf:Value} {wr:World} (h:InsS W b L ws reg tv w bx x va vf wr):(wr.cell? ⟨bx,0,none⟩=some (.int .u8 x.op)∧wr.cell? ⟨bx,1,none⟩=some (.int .i64 x.typ)∧wr.cell? ⟨bx,2,none⟩=some (.int .i64 x.a)∧wr.cell? ⟨bx,3,none⟩=some (.int .i64 x.b)∧wr.cell? ⟨bx,4,none⟩=some (.int .i64 x.n)∧wr.cell? ⟨bx,5,none⟩=some va∧wr.cell? ⟨bx,6,none⟩=some vf)∧(∀ i,wr.frozen? ⟨bx,i,none⟩=false) :=
 ⟨⟨cells_of h.box.box 0 _ rfl,cells_of h.box.box 1 _ rfl,cells_of h.box.box 2 _ rfl,cells_of h.box.box 3 _ rfl,cells_of h.box.box 4 _ rfl,cells_of h.box.box 5 _ rfl,cells_of h.box.box 6 _ rfl⟩,(ShTB.cells_heap h.box.box).2⟩
theorem InsS.start {l:Ln} {w1:World} (h:Rdr W b L l reg tv w1) (hb:b < w.heap.size) (hW:W.heap.size≤w.heap.size) (hk:Kept [b] (w.alloc (.cells #[.int .u8 0,.int .i64 0,.int .i64 0,.int .i64 0,.int .i64 0,.slice none 0 0,.slice none 0 0] 31)) w1) :
  InsS W b L l reg tv w w1.heap.size (ix0 0 0) (.slice none 0 0) (.slice none 0 0) (w1.alloc (.cells #[.int .u8 0,.int .i64 0,.int .i64 0,.int .i64 0,.int .i64 0,.slice none 0 0,.slice none 0 0] 31)):=by
 have hs:=hk.size
 rw [World.size_alloc] at hs
 refine ⟨h.on (alloc_below _ _),(((Kept.refl [b] w).alloc _).trans hk).alloc _,?_,⟨alloc_new _ _,World.ownsRow_nil _ _ _ _,World.ownsRow_nil _ _ _ _,fun g hg=>by cases hg⟩,hb,hW,by omega⟩
 exact alloc_old (hk.heap (alloc_new _ _) (fun e=>by have:=List.mem_singleton.1 e;omega)) _
def InsO (W:World) (b:Nat) (L:List Ln) (reg:Int) (tv:Value) (y:Ix) (w:World) (e:Ending) (w' : World):Prop :=
 ∃ va vf,e=.returned (ixV y va vf)∧OwnIr w.heap.size w' ⟨y,va,vf⟩∧Rdr W b L [] reg tv w'∧Kept [b] w w'
theorem InsS.done {bx:Nat} {y:Ix} {va vf:Value} {wr:World} (h:InsS W b L [] reg tv w bx y va vf wr) :
  ∃ W3,W3=(((((((wr.setCell ⟨w.heap.size,0,none⟩ (.int .u8 y.op)).setCell ⟨w.heap.size,1,none⟩ (.int .i64 y.typ)).setCell ⟨w.heap.size,2,none⟩ (.int .i64 y.a)).setCell ⟨w.heap.size,3,none⟩ (.int .i64 y.b)).setCell ⟨w.heap.size,4,none⟩ (.int .i64 y.n)).setCell ⟨w.heap.size,5,none⟩ va).setCell ⟨w.heap.size,6,none⟩ vf) ∧
   W3.heap[w.heap.size]?=some (.cells #[.int .u8 y.op,.int .i64 y.typ,.int .i64 y.a,.int .i64 y.b,.int .i64 y.n,va,vf] 31 (0,0))∧OwnIr w.heap.size W3 ⟨y,va,vf⟩∧Rdr W b L [] reg tv W3∧Kept [b] w W3:=by
 obtain ⟨W3,h1,h2,h3,h4⟩:=set7_world wr w.heap.size 31 (.int .u8 0) (.int .i64 0) (.int .i64 0) (.int .i64 0) (.int .i64 0) (.slice none 0 0) (.slice none 0 0) (.int .u8 y.op) (.int .i64 y.typ) (.int .i64 y.a) (.int .i64 y.b) (.int .i64 y.n) va vf h.res
 have hbl:=h4 0 wr (Below.refl _ _) (Nat.zero_le _)
 have hone:=kept_one h2 hbl
 have h5:=h.nb
 exact ⟨W3,h1,h3,⟨owns_other h.box.owa hone.grown (ShTB.typed_at h.res) (by decide),owns_other h.box.owf hone.grown (ShTB.typed_at h.res) (by decide)⟩,Rdr_one h.rdr hone h.lo (by omega),Kept_new h.kept hone (Nat.le_refl _)⟩
end Go.Proofs.YtpejpnffcepdlaaGreatDoor.RcL
namespace Go.Proofs.YtpejpnffcepdlaaGreatDoor.RcM
open Go.RowKit Go.Lib TyM TyP ShM ShP ShB IntO SetP LxM LxJ LxY RwO RdM RdN RdV RdB RdP Fresh Aft RgZ RcP RcA RcB RcC RcD RcT RcN RcU RcO RcH RcI RcK RcL
open LxP (LinesAt StrsAt)

variable {W:World} {b:Nat} {L:List Ln} {ws:Ln} {reg:Int} {tv:Value} {w:World}

theorem word_first {x:ByteArray} {l:Ln} (h:Rdr W b L (x :: l) reg tv w):∃ pb off pc,w.cell? ⟨b,1,none⟩=some (.slice (some ⟨pb,off,none⟩) (l.length+1) pc)∧w.cell? ⟨pb,off,none⟩=some (.string x):=by
 obtain ⟨la,lc,wa,wc,c0,c1,c2,c3,hfz,hl,hw,hb,hL,hn⟩:=h.facts
 obtain ⟨pb,off,rfl,_,d1⟩:=hw.at 0 (by simp)
 rw [Nat.add_zero] at d1
 exact ⟨pb,off,wc,c1,(h.be.cell (p:=⟨pb,off,none⟩) (World.block_lt_of_cell? W _ d1)).trans d1⟩
theorem str_is {z:ByteArray} (h:un z=[61]):(z.toList == [61])=true:=by rw [str_eq];exact decide_eq_true h
theorem str_not {z:ByteArray} (h:un z≠[61]):(z.toList == [61])=false:=by rw [str_eq];exact decide_eq_false h

theorem opL_lt {l:Ln} {k:Nat} {l3:Ln} (h:opL l=some (k,l3)):k < 23:=by
 cases l with
 | nil=>cases h
 | cons x l =>
  simp only [opL] at h
  cases ho:opC (un x) with
  | none=>rw [ho] at h;cases h
  | some j =>
   rw [ho] at h
   cases h
   unfold opC at ho
   split at ho
   ·cases ho;omega
   split at ho
   ·cases ho
   ·cases ho
    have:=op_le (un x)
    omega
theorem in1 {Q:Ending→World→Prop} {x:ByteArray} {l0:Ln} (h:Rdr W b ((x :: l0) :: L) ws reg tv w) (htab:ShA.Tab W) (hto:TabO W) (mx:(mkN x 114).2=0)
  (hy:∀ y,insC (x :: l0) reg=some y→(-1000000000≤reg∧reg≤1000000000)∧∀ e w',InsO W b L (reg+1) tv y w e w'→Q e w') (hn:insC (x :: l0) reg=none→∀ e w',Out b w e w'→Q e w'):Calls Tryz.prog 188 #[.pointer (some ⟨b,0,none⟩)] w Q:=by
 obtain ⟨r,hE⟩:∃ r,r=insC (x :: l0) reg:=⟨_,rfl⟩
 rw [← hE] at hy hn
 have HY:=hid hy
 have HN:=hid hn
 unfold insC at hE
 unfold ins1 at hE
 rw [List.getD_cons_zero,if_pos mx,markC_cons,if_pos mx] at hE
 simp only at hE
 have HE:=hid hE
 have Kmx:=hid mx
 have HTAB:=hid htab
 have HTO:=hid hto
 have hlt:=h.lt
 have hWs:=h.be.size
 have HNX:=hid (next_yes (h.on (alloc_below w (.cells #[.int .u8 0,.int .i64 0,.int .i64 0,.int .i64 0,.int .i64 0,.slice none 0 0,.slice none 0 0] 31))))
 unfold Goes at HNX
 have HFX:=hid ((h.fl.head).2.2 x (by simp)).2
 clear h htab hto hy hn hE mx
 go_enter Tryz.func188,Tryz.ntmps188
 go_wp2_with fail
 refine HNX.out.mono ?_
 rintro e w1 ⟨rfl,hr,hk⟩
 have hi:=InsS.start hr hlt hWs hk
 obtain ⟨pb,off,pc,c1,d1⟩:=word_first hi.rdr
 obtain ⟨w2,hw2⟩:∃ X,X=w1.alloc (.cells #[.int .u8 0,.int .i64 0,.int .i64 0,.int .i64 0,.int .i64 0,.slice none 0 0,.slice none 0 0] 31):=⟨_,rfl⟩
 have HW2:=hid hw2
 rw [← hw2] at hi
 have HI0:=hid hi
 have h0n:0 < l0.length+1:=by omega
 have h0i:(0:Int) < ((l0.length+1:Nat):Int):=by omega
 have HLN:=hid (hi.rdr.fw.1)
 generalize l0.length+1=n0 at *
 clear hi hr hk hw2 HNX
 go_wp2_with fail
 rw [← HW2.out]
 clear c1 d1 h0n h0i HW2
 have HM:=hid (mark_calls x HFX.out 114 w2)
 rw [show (((114:UInt8).toNat:Nat):Int)=114 from rfl] at HM
 unfold MkR at HM
 rw [Kmx.out] at HM
 generalize hrg:(mkN x 114).1=rg at *
 have HRG:=hid hrg
 clear hrg
 refine HM.out.mono ?_
 rintro e w3 ⟨rfl,hb⟩
 have HI1:=hid (HI0.out.on hb)
 clear hb HM HI0
 have HD:=hid HI1.out.draw
 have HC:=hid (mark_yes (c:=114) HD.out.rdr (show markC 114 (x :: l0)=some (rg,l0) by rw [markC_cons,if_pos Kmx.out,HRG.out]))
 rw [show (((114:UInt8).toNat:Nat):Int)=114 from rfl] at HC
 unfold Goes at HC
 have HV0:Hid (w3.drew.cell? ⟨b,2,none⟩=some (.int .i64 reg)):=by
  obtain ⟨_,_,_,_,_,_,c2,_⟩:=HD.out.rdr.facts
  exact c2
 by_cases hq:rg=reg
 rotate_left
 ·have hee:(rg == reg)=false:=by simpa using hq
  have HQ:=hid (HN.out (HE.out.trans (if_neg hq)))
  clear hq
  go_upto_region 6 with fail
  refine wp_region_Z (S:=(fun w'=>w'.cell? ⟨b,2,none⟩=some (.int .i64 reg))) (Z:=[]) (by kernel_rfl) ?_ (fun hHeld=>?_)
  ·(try dsimp only)
   exact HV0.out
  refine zP 0 rfl ?_
  refine zP 2 rfl ?_
  refine zP 3 rfl ?_
  refine zP 4 rfl ?_
  refine zP 5 rfl ?_
  refine zT 6 rfl ?_
  refine zC 1 rfl (fun K hK=>?_)
  go_simp
  (go_at_call 150;(with_reducible refine HC.out.mono ?_);rintro e w4 ⟨rfl,hr1,hk1⟩;have HI2:=hid (HD.out.go hr1 hk1);have HV1:Hid (w4.cell? ⟨b,2,none⟩=some (.int .i64 reg)):=(by obtain ⟨_,_,_,_,_,_,c2,_⟩:=HI2.out.rdr.facts;exact c2);clear hr1 hk1 HC)
  refine hK.out _ _ ?_ (fun hHeld=>?_)
  ·(try dsimp only)
   exact HV1.out
  clear hK K
  refine zP 7 rfl ?_
  refine zC 8 rfl (fun K hK=>?_)
  go_simp
  (go_at_call 106)
  refine (must_no w4).mono ?_
  rintro e w5 ⟨rfl,rfl⟩
  have HK9:=hid HI2.out.kept
  exact ⟨rfl,HQ.out _ _ ⟨rfl,HK9.out⟩⟩
 have hee:(rg == reg)=true:=by simpa using hq
 have hE:=HE.out
 rw [if_pos hq] at hE
 have HE1:=hid hE
 clear hq hE HE
 have HE:=HE1
 clear HE1
 go_upto_region 6 with fail
 refine wp_region_noPanic ?_
 refine wp_region_Z (S:=(fun w'=>w'.cell? ⟨b,2,none⟩=some (.int .i64 reg))) (Z:=[]) (by kernel_rfl) ?_ (fun hHeld=>?_)
 ·(try dsimp only)
  exact HV0.out
 refine zP 0 rfl ?_
 refine zP 2 rfl ?_
 refine zP 3 rfl ?_
 refine zP 4 rfl ?_
 refine zP 5 rfl ?_
 refine zT 6 rfl ?_
 refine zC 1 rfl (fun K hK=>?_)
 go_simp
 (go_at_call 150;(with_reducible refine HC.out.mono ?_);rintro e w4 ⟨rfl,hr1,hk1⟩;have HI2:=hid (HD.out.go hr1 hk1);have HV1:Hid (w4.cell? ⟨b,2,none⟩=some (.int .i64 reg)):=(by obtain ⟨_,_,_,_,_,_,c2,_⟩:=HI2.out.rdr.facts;exact c2);clear hr1 hk1 HC)
 refine hK.out _ _ ?_ (fun hHeld=>?_)
 ·(try dsimp only)
  exact HV1.out
 clear hK K
 refine zP 7 rfl ?_
 refine zC 8 rfl (fun K hK=>?_)
 go_simp
 (go_at_call 106;(with_reducible refine (must_yes w4).mono ?_);rintro e w5 ⟨rfl,rfl⟩)
 refine hK.out _ _ ?_ (fun hHeld=>?_)
 ·(try dsimp only)
  exact HV1.out
 clear hK K
 try simp only [Act.put,List.setIfInBounds_toArray,List.set_cons_zero,List.set_cons_succ]
 refine wpAnyZ_done (by kernel_rfl) ?_ _
 refine NoPanic.normal ?_
 clear HV0 HV1 HD hee
 go_wp2_with fail
 cases ht:markC 116 l0 with
 | none =>
  have hE:=HE.out
  rw [ht] at hE
  (try simp only at hE)
  have HQ:=hid (HN.out hE)
  have Kt:=hid ht
  clear hE ht
  refine (mark_no (c:=116) HI2.out.rdr Kt.out).mono ?_
  rintro e w9 ⟨rfl,hk⟩
  have HK9:=hid (HI2.out.kept.trans hk)
  go_wp2
  exact ⟨rfl,HQ.out _ _ ⟨rfl,HK9.out⟩⟩
 | some tl =>
  obtain ⟨t,l1⟩:=tl
  have hE:=HE.out
  rw [ht] at hE
  (try simp only at hE)
  have HE1:=hid hE
  have Kt:=hid ht
  clear hE ht HE
  refine (mark_yes (c:=116) HI2.out.rdr Kt.out).mono ?_
  rintro e w5 ⟨rfl,hr,hk⟩
  have hi:=HI2.out.go hr hk
  have g1:=hi.facts.1.2.1
  have gz1:=hi.facts.2 1
  obtain ⟨w6,hX⟩:∃ X,X=w5.setCell ⟨w1.heap.size,1,none⟩ (.int .i64 t):=⟨_,rfl⟩
  have HX:=hid hX
  have HI3:Hid (InsS W b L l1 reg tv w w1.heap.size (ix0 0 t) (.slice none 0 0) (.slice none 0 0) w6):=by show InsS _ _ _ _ _ _ _ _ _ _ _ _;rw [hX];exact hi.set (hi.box.setT t)
  clear hi hr hk hX HI2
  go_wp2_with fail
  rw [← HX.out]
  clear g1 gz1 HX
  cases l1 with
  | nil =>
   have HQ:=hid (HN.out HE1.out)
   refine (word_no HI3.out.rdr).mono ?_
   rintro e w9 ⟨rfl,hk⟩
   have HK9:=hid (HI3.out.kept.trans hk)
   go_wp2
   exact ⟨rfl,HQ.out _ _ ⟨rfl,HK9.out⟩⟩
  | cons z l2 =>
   refine (word_yes HI3.out.rdr).mono ?_
   rintro e w7 ⟨rfl,hr,hk⟩
   have HI4:=hid (HI3.out.go hr hk)
   clear hr hk HI3
   have hE:=HE1.out
   simp only [wordC] at hE
   by_cases hz:un z=[61]
   rotate_left
   ·rw [if_neg hz] at hE
    have HQ:=hid (HN.out hE)
    have hzq:=str_not hz
    clear hE hz
    go_wp2_with fail
    refine (must_no w7).mono ?_
    rintro e w9 ⟨rfl,rfl⟩
    have HK9:=hid HI4.out.kept
    go_wp2
    exact ⟨rfl,HQ.out _ _ ⟨rfl,HK9.out⟩⟩
   rw [if_pos hz] at hE
   have HE:=hid hE
   have hzq:=str_is hz
   clear hE hz HE1
   go_wp2_with fail
   refine (must_yes w7).mono ?_
   rintro e w9 ⟨rfl,rfl⟩
   clear hzq
   go_wp2_with fail
   cases hop:opL l2 with
   | none =>
    have hE:=HE.out
    rw [hop] at hE
    (try simp only at hE)
    have HQ:=hid (HN.out hE)
    have Kop:=hid hop
    clear hE hop
    refine (op_no HI4.out.rdr HTO.out Kop.out).mono ?_
    rintro e w9 ⟨rfl,hk⟩
    have HK9:=hid (HI4.out.kept.trans hk)
    go_wp2
    exact ⟨rfl,HQ.out _ _ ⟨rfl,HK9.out⟩⟩
   | some kl =>
    obtain ⟨k,l3⟩:=kl
    have hE:=HE.out
    rw [hop] at hE
    (try simp only at hE)
    have HE2:=hid hE
    have Kk:=hid (opL_lt hop)
    have Kop:=hid hop
    clear hE hop HE
    refine (op_yes HI4.out.rdr HTO.out Kop.out).mono ?_
    rintro e w10 ⟨rfl,hr,hk⟩
    have hi:=HI4.out.go hr hk
    have g0:=hi.facts.1.1
    have gz0:=hi.facts.2 0
    obtain ⟨w11,hX⟩:∃ X,X=w10.setCell ⟨w1.heap.size,0,none⟩ (.int .u8 k):=⟨_,rfl⟩
    have HX:=hid hX
    have HI5:Hid (InsS W b L l3 reg tv w w1.heap.size (ix0 k t) (.slice none 0 0) (.slice none 0 0) w11):=by show InsS _ _ _ _ _ _ _ _ _ _ _ _;rw [hX];exact hi.set (hi.box.setO k)
    have g00:w11.cell? ⟨w1.heap.size,0,none⟩=some (.int .u8 k):=HI5.out.facts.1.1
    rw [hX] at g00
    clear hi hr hk hX HI4
    go_wp2_with fail
    rw [← HX.out]
    clear g0 gz0 g00 HX
    refine (ShA.answers_calls k (by omega) (by have:=Kk.out;omega) w11 (HTAB.out.on HI5.out.rdr.be)).mono ?_
    rintro e w12 ⟨rfl,hb⟩
    have HI6:=hid (HI5.out.on hb)
    clear hb HI5
    by_cases ha:answersB k=true
    rotate_left
    ·have hE:=HE2.out
     rw [if_neg ha] at hE
     have HQ:=hid (HN.out hE)
     rw [Bool.eq_false_iff.2 ha]
     clear hE ha
     go_wp2_with fail
     refine (must_no w12).mono ?_
     rintro e w9 ⟨rfl,rfl⟩
     have HK9:=hid HI6.out.kept
     go_wp2
     exact ⟨rfl,HQ.out _ _ ⟨rfl,HK9.out⟩⟩
    have hE:=HE2.out
    rw [if_pos ha] at hE
    have HE:=hid hE
    rw [ha]
    clear hE ha HE2
    go_wp2_with fail
    refine (must_yes w12).mono ?_
    rintro e w9 ⟨rfl,rfl⟩
    go_wp2_with fail
    cases hh:hasC k t l3 with
    | none =>
     have hE:=HE.out
     rw [hh] at hE
     (try simp only at hE)
     have HQ:=hid (HN.out hE)
     have Kh:=hid hh
     clear hE hh
     refine (has_no HI6.out.has HTAB.out (by omega) (by have:=Kk.out;omega) Kh.out).mono ?_
     rintro e w9 ⟨rfl,hk⟩
     have HK9:=hid (kept_two HI6.out.kept hk (by have:=HI6.out.lt;omega))
     go_wp2
     exact ⟨rfl,HQ.out _ _ ⟨rfl,HK9.out⟩⟩
    | some yl =>
     obtain ⟨y,l4⟩:=yl
     have hE:=HE.out
     rw [hh] at hE
     (try simp only at hE)
     have HE2:=hid hE
     have Kh:=hid hh
     clear hE hh HE
     refine (has_yes HI6.out.has HTAB.out (by omega) (by have:=Kk.out;omega) Kh.out).mono ?_
     rintro e w13 ⟨rfl,va,vf,hh⟩
     have HI7:=hid (HI6.out.back hh)
     clear hh HI6
     go_wp2_with fail
     cases l4 with
     | cons z4 l4 =>
      have HQ:=hid (HN.out HE2.out)
      refine (over_no HI7.out.rdr (by simp)).mono ?_
      rintro e w9 ⟨rfl,hk⟩
      have HK9:=hid (HI7.out.kept.trans hk)
      go_wp2
      exact ⟨rfl,HQ.out _ _ ⟨rfl,HK9.out⟩⟩
     | nil =>
      obtain ⟨hreg,hQ⟩:=HY.out y HE2.out
      have Kreg:=hid hreg
      have HQ:=hid hQ
      clear hreg hQ
      refine (over_yes HI7.out.rdr).mono ?_
      rintro e w14 ⟨rfl,hr,hk⟩
      have hi:=HI7.out.go hr hk
      obtain ⟨_,_,_,_,_,_,c2,_,hfz,_⟩:=hi.rdr.facts
      have fz2:=hfz 2
      obtain ⟨w15,hX⟩:∃ X,X=w14.setCell ⟨b,2,none⟩ (.int .i64 (reg+1)):=⟨_,rfl⟩
      have hi2:InsS W b L [] (reg+1) tv w w1.heap.size y va vf w15:=by rw [hX];exact hi.regs (reg+1)
      obtain ⟨f0,f1,f2,f3,f4,f5,f6⟩:=hi2.facts.1
      have hn:=hi2.res
      have y0:=cells_of hn 0 _ rfl;have y1:=cells_of hn 1 _ rfl;have y2:=cells_of hn 2 _ rfl;have y3:=cells_of hn 3 _ rfl;have y4:=cells_of hn 4 _ rfl;have y5:=cells_of hn 5 _ rfl;have y6:=cells_of hn 6 _ rfl
      have hz:=(ShTB.cells_heap hn).2
      have z0:=hz 0;have z1:=hz 1;have z2:=hz 2;have z3:=hz 3;have z4:=hz 4;have z5:=hz 5;have z6:=hz 6
      obtain ⟨W3,hW3,hk3,ho3,hr3,hkp3⟩:=hi2.done
      have x0:=cells_of hk3 0 _ rfl;have x1:=cells_of hk3 1 _ rfl;have x2:=cells_of hk3 2 _ rfl;have x3:=cells_of hk3 3 _ rfl;have x4:=cells_of hk3 4 _ rfl;have x5:=cells_of hk3 5 _ rfl;have x6:=cells_of hk3 6 _ rfl
      have HW3:=hid hW3
      have HO3:=hid ho3
      have HR3:=hid hr3
      have HK3:=hid hkp3
      have HX:=hid hX
      obtain ⟨a1,a2,hva⟩:=own_form hi2.box.owa
      obtain ⟨a3,a4,hvf⟩:=own_form hi2.box.owf
      subst hva
      subst hvf
      have hwr:IntKind.i64.wrap (reg+1)=reg+1:=IntWalk.i64_in _ (by have:=Kreg.out;omega)
      clear hi hr hk hi2 hn hz hW3 hk3 ho3 hr3 hkp3 HI7 hfz hX
      go_upto_region 14 with fail
      rw [← HX.out]
      clear c2 fz2 hwr HX
      go_wp2
      (try simp only [Exit.inBlock,Exit.then])
      rw [← HW3.out]
      refine bodyPost_ret (by simp [results,Tryz.results188,go_sem,x0,x1,x2,x3,x4,x5,x6];try rfl) rfl ?_
      exact HQ.out _ _ ⟨_,_,rfl,HO3.out,HR3.out,HK3.out⟩
theorem in2 {Q:Ending→World→Prop} {x:ByteArray} {l0:Ln} (h:Rdr W b ((x :: l0) :: L) ws reg tv w) (htab:ShA.Tab W) (hto:TabO W) (mx:(mkN x 114).2≠0)
  (hy:∀ y,insC (x :: l0) reg=some y→(-1000000000≤reg∧reg≤1000000000)∧∀ e w',InsO W b L (reg+1) tv y w e w'→Q e w') (hn:insC (x :: l0) reg=none→∀ e w',Out b w e w'→Q e w'):Calls Tryz.prog 188 #[.pointer (some ⟨b,0,none⟩)] w Q:=by
 obtain ⟨r,hE⟩:∃ r,r=insC (x :: l0) reg:=⟨_,rfl⟩
 rw [← hE] at hy hn
 have HY:=hid hy
 have HN:=hid hn
 unfold insC at hE
 unfold ins2 at hE
 rw [List.getD_cons_zero,if_neg mx] at hE
 have HE:=hid hE
 have Kmx:=hid mx
 have HTAB:=hid htab
 have HTO:=hid hto
 have hlt:=h.lt
 have hWs:=h.be.size
 have HNX:=hid (next_yes (h.on (alloc_below w (.cells #[.int .u8 0,.int .i64 0,.int .i64 0,.int .i64 0,.int .i64 0,.slice none 0 0,.slice none 0 0] 31))))
 unfold Goes at HNX
 have HFX:=hid ((h.fl.head).2.2 x (by simp)).2
 clear h htab hto hy hn hE mx
 go_enter Tryz.func188,Tryz.ntmps188
 go_wp2_with fail
 refine HNX.out.mono ?_
 rintro e w1 ⟨rfl,hr,hk⟩
 have hi:=InsS.start hr hlt hWs hk
 obtain ⟨pb,off,pc,c1,d1⟩:=word_first hi.rdr
 obtain ⟨w2,hw2⟩:∃ X,X=w1.alloc (.cells #[.int .u8 0,.int .i64 0,.int .i64 0,.int .i64 0,.int .i64 0,.slice none 0 0,.slice none 0 0] 31):=⟨_,rfl⟩
 have HW2:=hid hw2
 rw [← hw2] at hi
 have HI0:=hid hi
 have h0n:0 < l0.length+1:=by omega
 have h0i:(0:Int) < ((l0.length+1:Nat):Int):=by omega
 have HLN:=hid (hi.rdr.fw.1)
 generalize l0.length+1=n0 at *
 clear hi hr hk hw2 HNX
 go_wp2_with fail
 rw [← HW2.out]
 clear c1 d1 h0n h0i HW2
 have HM:=hid (mark_calls x HFX.out 114 w2)
 rw [show (((114:UInt8).toNat:Nat):Int)=114 from rfl] at HM
 unfold MkR at HM
 have hzz:((mkN x 114).2 == 0)=false:=by simpa using Kmx.out
 generalize (mkN x 114).2=zz at *
 generalize hrg:(mkN x 114).1=rg at *
 have HRG:=hid hrg
 clear hrg
 refine HM.out.mono ?_
 rintro e w3 ⟨rfl,hb⟩
 have HI1:=hid (HI0.out.on hb)
 clear hb HM HI0
 go_wp2_with fail
 cases hop:opL (x :: l0) with
 | none =>
  have hE:=HE.out
  rw [hop] at hE
  (try simp only at hE)
  have HQ:=hid (HN.out hE)
  have Kop:=hid hop
  clear hE hop
  refine (op_no HI1.out.rdr HTO.out Kop.out).mono ?_
  rintro e w9 ⟨rfl,hk⟩
  have HK9:=hid (HI1.out.kept.trans hk)
  go_wp2
  exact ⟨rfl,HQ.out _ _ ⟨rfl,HK9.out⟩⟩
 | some kl =>
  obtain ⟨k,l3⟩:=kl
  have hE:=HE.out
  rw [hop] at hE
  (try simp only at hE)
  have HE2:=hid hE
  have Kk:=hid (opL_lt hop)
  have Kop:=hid hop
  clear hE hop HE
  refine (op_yes HI1.out.rdr HTO.out Kop.out).mono ?_
  rintro e w10 ⟨rfl,hr,hk⟩
  have hi:=HI1.out.go hr hk
  have g0:=hi.facts.1.1
  have gz0:=hi.facts.2 0
  obtain ⟨w11,hX⟩:∃ X,X=w10.setCell ⟨w1.heap.size,0,none⟩ (.int .u8 k):=⟨_,rfl⟩
  have HX:=hid hX
  have HI5:Hid (InsS W b L l3 reg tv w w1.heap.size (ix0 k 0) (.slice none 0 0) (.slice none 0 0) w11):=by show InsS _ _ _ _ _ _ _ _ _ _ _ _;rw [hX];exact hi.set (hi.box.setO k)
  have g00:w11.cell? ⟨w1.heap.size,0,none⟩=some (.int .u8 k):=HI5.out.facts.1.1
  rw [hX] at g00
  clear hi hr hk hX HI1
  go_wp2_with fail
  rw [← HX.out]
  clear g0 gz0 g00 HX
  refine (ShA.answers_calls k (by omega) (by have:=Kk.out;omega) w11 (HTAB.out.on HI5.out.rdr.be)).mono ?_
  rintro e w12 ⟨rfl,hb⟩
  have HI6:=hid (HI5.out.on hb)
  clear hb HI5
  by_cases ha:answersB k=true
  ·have hE:=HE2.out
   rw [if_pos ha] at hE
   have HQ:=hid (HN.out hE)
   rw [ha]
   clear hE ha
   go_wp2_with fail
   refine (must_no w12).mono ?_
   rintro e w9 ⟨rfl,rfl⟩
   have HK9:=hid HI6.out.kept
   go_wp2
   exact ⟨rfl,HQ.out _ _ ⟨rfl,HK9.out⟩⟩
  have hE:=HE2.out
  rw [if_neg ha] at hE
  have HE:=hid hE
  rw [Bool.eq_false_iff.2 ha]
  clear hE ha HE2
  go_wp2_with fail
  refine (must_yes w12).mono ?_
  rintro e w9 ⟨rfl,rfl⟩
  go_wp2_with fail
  cases hh:hasC k 0 l3 with
  | none =>
   have hE:=HE.out
   rw [hh] at hE
   (try simp only at hE)
   have HQ:=hid (HN.out hE)
   have Kh:=hid hh
   clear hE hh
   refine (has_no HI6.out.has HTAB.out (by omega) (by have:=Kk.out;omega) Kh.out).mono ?_
   rintro e w9 ⟨rfl,hk⟩
   have HK9:=hid (kept_two HI6.out.kept hk (by have:=HI6.out.lt;omega))
   go_wp2
   exact ⟨rfl,HQ.out _ _ ⟨rfl,HK9.out⟩⟩
  | some yl =>
   obtain ⟨y,l4⟩:=yl
   have hE:=HE.out
   rw [hh] at hE
   (try simp only at hE)
   have HE2:=hid hE
   have Kh:=hid hh
   clear hE hh HE
   refine (has_yes HI6.out.has HTAB.out (by omega) (by have:=Kk.out;omega) Kh.out).mono ?_
   rintro e w13 ⟨rfl,va,vf,hh⟩
   have HI7:=hid (HI6.out.back hh)
   clear hh HI6
   go_wp2_with fail
   cases l4 with
   | cons z4 l4 =>
    have HQ:=hid (HN.out HE2.out)
    refine (over_no HI7.out.rdr (by simp)).mono ?_
    rintro e w9 ⟨rfl,hk⟩
    have HK9:=hid (HI7.out.kept.trans hk)
    go_wp2
    exact ⟨rfl,HQ.out _ _ ⟨rfl,HK9.out⟩⟩
   | nil =>
    obtain ⟨hreg,hQ⟩:=HY.out y HE2.out
    have Kreg:=hid hreg
    have HQ:=hid hQ
    clear hreg hQ
    refine (over_yes HI7.out.rdr).mono ?_
    rintro e w14 ⟨rfl,hr,hk⟩
    have hi:=HI7.out.go hr hk
    obtain ⟨_,_,_,_,_,_,c2,_,hfz,_⟩:=hi.rdr.facts
    have fz2:=hfz 2
    obtain ⟨w15,hX⟩:∃ X,X=w14.setCell ⟨b,2,none⟩ (.int .i64 (reg+1)):=⟨_,rfl⟩
    have hi2:InsS W b L [] (reg+1) tv w w1.heap.size y va vf w15:=by rw [hX];exact hi.regs (reg+1)
    obtain ⟨f0,f1,f2,f3,f4,f5,f6⟩:=hi2.facts.1
    have hn:=hi2.res
    have y0:=cells_of hn 0 _ rfl;have y1:=cells_of hn 1 _ rfl;have y2:=cells_of hn 2 _ rfl;have y3:=cells_of hn 3 _ rfl;have y4:=cells_of hn 4 _ rfl;have y5:=cells_of hn 5 _ rfl;have y6:=cells_of hn 6 _ rfl
    have hz:=(ShTB.cells_heap hn).2
    have z0:=hz 0;have z1:=hz 1;have z2:=hz 2;have z3:=hz 3;have z4:=hz 4;have z5:=hz 5;have z6:=hz 6
    obtain ⟨W3,hW3,hk3,ho3,hr3,hkp3⟩:=hi2.done
    have x0:=cells_of hk3 0 _ rfl;have x1:=cells_of hk3 1 _ rfl;have x2:=cells_of hk3 2 _ rfl;have x3:=cells_of hk3 3 _ rfl;have x4:=cells_of hk3 4 _ rfl;have x5:=cells_of hk3 5 _ rfl;have x6:=cells_of hk3 6 _ rfl
    have HW3:=hid hW3
    have HO3:=hid ho3
    have HR3:=hid hr3
    have HK3:=hid hkp3
    have HX:=hid hX
    obtain ⟨a1,a2,hva⟩:=own_form hi2.box.owa
    obtain ⟨a3,a4,hvf⟩:=own_form hi2.box.owf
    subst hva
    subst hvf
    have hwr:IntKind.i64.wrap (reg+1)=reg+1:=IntWalk.i64_in _ (by have:=Kreg.out;omega)
    clear hi hr hk hi2 hn hz hW3 hk3 ho3 hr3 hkp3 HI7 hfz hX
    go_upto_region 14 with fail
    rw [← HX.out]
    clear c2 fz2 hwr HX
    go_wp2
    (try simp only [Exit.inBlock,Exit.then])
    rw [← HW3.out]
    refine bodyPost_ret (by simp [results,Tryz.results188,go_sem,x0,x1,x2,x3,x4,x5,x6];try rfl) rfl ?_
    exact HQ.out _ _ ⟨_,_,rfl,HO3.out,HR3.out,HK3.out⟩
end Go.Proofs.YtpejpnffcepdlaaGreatDoor.RcM
namespace Go.Proofs.YtpejpnffcepdlaaGreatDoor.RcQ
open Go.RowKit Go.Lib TyM TyP ShM ShP ShB IntO SetP LxM LxJ LxY RwO RdM RdN RdV RdB Aft RcP RcA RcB RcC RcD RcO RcL RcM

variable {W:World} {b:Nat} {L:List Ln} {ws:Ln} {reg:Int} {tv:Value} {w:World}

theorem done_some {α:Type} {o:Option (α × Ln)} {y:α} (h:done o=some y):o=some (y,[]):=by
 match o,h with
 | some (y,[]),h=>cases h;rfl
theorem ins_any {Q:Ending→World→Prop} {l:Ln} (h:Rdr W b (l :: L) ws reg tv w) (htab:ShA.Tab W) (hto:TabO W)
  (hy:∀ y,insP l reg=some y→(-1000000000≤reg∧reg≤1000000000)∧∀ e w',InsO W b L (reg+1) tv y w e w'→Q e w') (hn:insP l reg=none→∀ e w',Out b w e w'→Q e w') :
  Calls Tryz.prog 188 #[.pointer (some ⟨b,0,none⟩)] w Q:=by
 rw [← ins_eq h.fl.head.1 (fun x hx=>(h.fl.head.2.2 x hx).1)] at hy hn
 cases l with
 | nil=>have:=h.fl.head.1;simp at this
 | cons x l0 =>
  by_cases hx:(mkN x 114).2=0
  ·exact in1 h htab hto hx hy hn
  ·exact in2 h htab hto hx hy hn
theorem ins_yes {l:Ln} {y:Ix} (h:Rdr W b (l :: L) ws reg tv w) (htab:ShA.Tab W) (hto:TabO W) (hreg : -1000000000≤reg∧reg≤1000000000) (hm:insP l reg=some y) :
  Calls Tryz.prog 188 #[.pointer (some ⟨b,0,none⟩)] w (InsO W b L (reg+1) tv y w) :=
 ins_any h htab hto (fun y' hy=>by rw [hm] at hy;cases hy;exact ⟨hreg,fun _ _ h=>h⟩) (fun hn=>by rw [hm] at hn;cases hn)
theorem ins_no {l:Ln} (h:Rdr W b (l :: L) ws reg tv w) (htab:ShA.Tab W) (hto:TabO W) (hm:insP l reg=none) :
  Calls Tryz.prog 188 #[.pointer (some ⟨b,0,none⟩)] w (Out b w) :=
 ins_any h htab hto (fun y hy=>by rw [hm] at hy;cases hy) (fun _ _ _ h=>h)
theorem ins_nil (h:Rdr W b [] ws reg tv w):Calls Tryz.prog 188 #[.pointer (some ⟨b,0,none⟩)] w (Out b w):=by
 have HNX:=hid (next_no (h.on (alloc_below w (.cells #[.int .u8 0,.int .i64 0,.int .i64 0,.int .i64 0,.int .i64 0,.slice none 0 0,.slice none 0 0] 31))))
 unfold Out at HNX
 clear h
 go_enter Tryz.func188,Tryz.ntmps188
 go_wp2_with fail
 refine HNX.out.mono ?_
 rintro e w1 ⟨rfl,hk⟩
 have HK:=hid (((Kept.refl [b] w).alloc _).trans hk)
 clear hk HNX
 go_wp2
 exact ⟨rfl,rfl,HK.out⟩
end Go.Proofs.YtpejpnffcepdlaaGreatDoor.RcQ
