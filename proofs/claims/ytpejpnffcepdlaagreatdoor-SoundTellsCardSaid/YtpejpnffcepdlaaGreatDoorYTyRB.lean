/- Walks over fescueref03.Of, Check and asked. -/
import Derived.Test.YtpejpnffcepdlaaGreatDoorYTyBToTyTI
import Derived.Test.YtpejpnffcepdlaaGreatDoorYTyEToTyQ
import Derived.Test.YtpejpnffcepdlaaGreatDoorYFresh
set_option maxRecDepth 100000
set_option maxHeartbeats 16000000
namespace Go.Proofs.YtpejpnffcepdlaaGreatDoor.TyRB
open Go.RowKit Go.Lib SetP IntO TyM TyP TyB TyC TyD TyE TyS TyRA Fresh

theorem row_other {w:World} {B b s n:Nat} {e f:TypeId} {v:Value} {xs:List Value} {cs:Array Value} {fr:Nat × Nat} (h:w.ownsRow B e s v n xs) (hb:w.heap[b]?=some (.cells cs f fr)) (hef:e≠f):v.ownBlock≠some b:=by
 intro hg
 rcases h.2 with ⟨rfl,_⟩ | ⟨g,_,_,rfl,_,h1,_⟩
 ·cases hg
 ·obtain rfl:g=b:=by simpa [Value.ownBlock] using hg
  rw [h1] at hb
  simp at hb
  exact hef hb.2.1

theorem of_any (N:Nat):∀ (t:List Ty) (v:Value) (k:Nat) (w:World),TysAt w v t→k < N→Fit t k→Calls Tryz.prog 122 #[v,.int .i64 k] w (OwnI (cellsOf t k) w):=by
 induction N with
 | zero=>intro t v k w ht hk;omega
 | succ N ih =>
  intro t v k w ht hk hfit
  obtain ⟨n,x,hkn,hnt,hx,hmay,hlow⟩:=fit_at hfit
  obtain rfl:k=n:=by omega
  obtain ⟨ao,cap,rfl⟩:=ht.slice
  have HT:=hid ht
  obtain ⟨tb,off,rfl,hlt,pv,c0,c1,c2,c3,hp⟩:=ht.at k hnt
  obtain ⟨hk',hx'⟩:=List.getElem?_eq_some_iff.1 hx
  rw [hx'] at c0 c1 c2 hp
  have HP:=hid hp
  obtain ⟨pa,pc,rfl,hpl⟩:=ints_slice hp
  have hb0:Below w.heap.size w (w.alloc (.cells #[.int .u8 x.kind,.int .i64 x.elem,.int .i64 x.many,.slice pa x.parts.length pc] 43)):=(Below.refl _ _).alloc (Nat.le_refl _) _
  have HK:=hid (alloc_new w (.cells #[.int .u8 x.kind,.int .i64 x.elem,.int .i64 x.many,.slice pa x.parts.length pc] 43))
  have HIH:=hid (fun (p:Nat) (hp:Fit t p) (hpk:p < k) wx (hb:Below w.heap.size w wx)=>ih t _ p wx (HT.out.below hb) (by omega) hp)
  have HPART:=hid (fit_part hnt hmay hlow)
  have HLEN:=hid (len_parts hmay hlow)
  have HSP:=hid (fun l (h:partsOf x=l) i=>(show (cellsAll t (l.take i)).length≤(cellsAll t l).length by
   have h2:cellsAll t l=cellsAll t (l.take i)++cellsAll t (l.drop i):=by rw [← cellsAll_append,List.take_append_drop]
   rw [h2,List.length_append];omega))
  by_cases h4:x.kind=4
  ·have HC:=hid (cellsOf_parts hx (.inl h4) (mayX_low hmay))
   rw [HC.out,partsOf_struct h4]
   rw [partsOf_struct h4] at HPART HLEN HSP
   have HTK:=hid (fun i (h:i < x.parts.length)=>cellsAll_take t h)
   clear ih hp hx hx' hmay hlow ht hfit HC hkn hnt
   obtain ⟨xk,xe,xm,xp⟩:=x
   simp only at *
   subst h4
   generalize t.length=n at *
   go_enter Tryz.func122,Tryz.ntmps122
   go_wp2
   go_loopg [6,7] xp.length (fun gk o iv wr=>∃ i:Nat,i+gk=xp.length∧iv=.int .i64 i∧(∃ m,wr.ownsRow w.heap.size 3 1 o m (intVals (cellsAll t (xp.take i))))∧Below w.heap.size w wr∧wr.heap[w.heap.size]?=some (.cells #[.int .u8 4,.int .i64 xe,.int .i64 xm,.slice pa xp.length pc] 43 (0,0)))
   case atStart=>exact ⟨0,by omega,rfl,⟨0,World.ownsRow_nil _ _ _ _⟩,hb0,HK.out⟩
   case round =>
    obtain ⟨i,hi,rfl,⟨m,hown⟩,hbe,hkk⟩:=hrel
    have HI:=hid hi
    have HKK:=hid hkk
    have HOWN:=hid hown
    obtain ⟨cf,_,_,_⟩:=copy_facts hkk (Below.refl _ _)
    have d3:=cf 3 (by simp)
    simp only [List.getElem_toArray,List.getElem_cons_succ,List.getElem_cons_zero] at d3
    clear hkk cf hi
    by_cases hlt2:i < xp.length
    ·obtain ⟨b,o,rfl,hbs,hc⟩:=ints_at (HP.out.below hbe) i hlt2
     obtain ⟨hpf,hpk⟩:=HPART.out _ (List.getElem_mem hlt2)
     have HTI:=hid (HTK.out i hlt2)
     have hsp:=HSP.out xp rfl (i+1)
     rw [HTI.out,List.length_append] at hsp
     have hlen:=HLEN.out
     generalize xp[i]=p at *
     obtain ⟨q,rfl⟩:∃ q:Nat,p=q:=⟨p.toNat,by have:=hpf.1;omega⟩
     rw [Int.toNat_natCast] at hsp HTI
     have HC:=hid (HIH.out q hpf (by omega) wr hbe)
     have hml:m≤1000:=by have:=hown.1;rw [intVals_length] at this;omega
     have hql:(cellsOf t q).length≤1000:=by omega
     clear hown hpf hpk hsp hlen
     generalize (cellsOf t q)=cq at *
     go_wp2_with fail
     refine HC.out.mono ?_
     rintro e w1 ⟨u,m2,rfl,hu,hb1⟩
     have hbe1:=hbe.trans (hb1.mono hbe.size)
     have HO1:=hid (ownsRow_below HOWN.out hb1)
     have HU:=hid (intsAt_of_owns hu (by omega))
     have HK1:=hid ((hb1.block _ (Array.getElem?_eq_some_iff.1 HKK.out).1).trans HKK.out)
     have hsz:=hbe1.size
     clear hu hb1 d3 hc hbe HC
     go_wp2_with (at_builtin;refine wpList_append_ints rfl _ _ rfl w.heap.size u6 rfl m (intVals (cellsAll t (xp.take i))) HO1.out (by omega) u cq rfl HU.out (by omega) hsz ?_)
     intro v' w2 hown' hgrow
     have hbe2:=hbe1.grown hgrow hsz (fun g hg=>by
      rcases HO1.out.2 with ⟨rfl,_⟩ | ⟨g',_,_,rfl,hg',_⟩
      ·cases hg
      ·have:g'=g:=by simpa [Value.ownBlock] using hg
       omega)
     have HK2:=hid ((hgrow.block _ (Array.getElem?_eq_some_iff.1 HK1.out).1 (fun e=>row_other HO1.out HK1.out (by decide) e.symm)).trans HK1.out)
     have HO2:Hid (w2.ownsRow w.heap.size 3 1 v' (m+cq.length) (intVals (cellsAll t (xp.take (i+1))))):=by show World.ownsRow _ _ _ _ _ _ _;rw [HTI.out,intVals_append];exact hown'
     clear hgrow hown' hbe1
     go_wp2
     go_roundg (gk - 1)
     case measure=>have:=HI.out;omega
     case rel=>exact ⟨i+1,by have:=HI.out;omega,by go_num,⟨_,HO2.out⟩,hbe2,HK2.out⟩
    ·obtain rfl:i=xp.length:=by have:=HI.out;omega
     rw [List.take_length] at HOWN
     clear hown
     go_wp2
     go_ret
     exact ⟨_,m,rfl,HOWN.out,hbe⟩
  by_cases h5:x.kind=5
  ·have HC:=hid (cellsOf_parts hx (.inr h5) (mayX_low hmay))
   obtain ⟨hm1,hm2,he0,he1⟩:=mayX_array hmay h5
   obtain ⟨mm,hmm⟩:∃ mm:Nat,x.many=mm:=⟨x.many.toNat,by omega⟩
   rw [HC.out,partsOf_array h5,hmm,Int.toNat_natCast]
   rw [partsOf_array h5,hmm,Int.toNat_natCast] at HPART HLEN HSP
   have HTK:=hid (fun i (h:i < (List.replicate mm x.elem).length)=>cellsAll_take t h)
   have hpf:=(HPART.out x.elem (List.mem_replicate.2 ⟨by omega,rfl⟩)).1
   have hpk:=(HPART.out x.elem (List.mem_replicate.2 ⟨by omega,rfl⟩)).2
   clear ih hp hx hx' hmay hlow ht hfit HC hkn hnt
   obtain ⟨xk,xe,xm,xp⟩:=x
   simp only at *
   subst h5
   subst hmm
   generalize t.length=n at *
   go_enter Tryz.func122,Tryz.ntmps122
   go_wp2
   go_loopg [8,9] mm (fun gk o iv wr=>∃ i:Nat,i+gk=mm∧iv=.int .i64 i∧(∃ m,wr.ownsRow w.heap.size 3 1 o m (intVals (cellsAll t ((List.replicate mm xe).take i))))∧Below w.heap.size w wr∧wr.heap[w.heap.size]?=some (.cells #[.int .u8 5,.int .i64 xe,.int .i64 mm,.slice pa xp.length pc] 43 (0,0)))
   case atStart=>exact ⟨0,by omega,rfl,⟨0,World.ownsRow_nil _ _ _ _⟩,hb0,HK.out⟩
   case round =>
    obtain ⟨i,hi,rfl,⟨m,hown⟩,hbe,hkk⟩:=hrel
    have HI:=hid hi
    have HKK:=hid hkk
    have HOWN:=hid hown
    obtain ⟨cf,_,_,_⟩:=copy_facts hkk (Below.refl _ _)
    have d1:=cf 1 (by simp)
    have d2:=cf 2 (by simp)
    have d0:=cf 0 (by simp)
    simp only [List.getElem_toArray,List.getElem_cons_succ,List.getElem_cons_zero] at d0 d1 d2
    clear hkk cf hi
    by_cases hlt2:i < mm
    ·have HTI:=hid (HTK.out i (by rw [List.length_replicate];exact hlt2))
     have hsp:=HSP.out _ rfl (i+1)
     rw [HTI.out,List.length_append,List.getElem_replicate] at hsp
     rw [List.getElem_replicate] at HTI
     have hlen:=HLEN.out
     obtain ⟨q,rfl⟩:∃ q:Nat,xe=q:=⟨xe.toNat,by have:=hpf.1;omega⟩
     rw [Int.toNat_natCast] at hsp HTI
     have HC:=hid (HIH.out q hpf (by omega) wr hbe)
     have hml:m≤1000:=by have:=hown.1;rw [intVals_length] at this;omega
     have hql:(cellsOf t q).length≤1000:=by omega
     clear hown hsp hlen
     generalize (cellsOf t q)=cq at *
     go_wp2_with fail
     refine HC.out.mono ?_
     rintro e w1 ⟨u,m2,rfl,hu,hb1⟩
     have hbe1:=hbe.trans (hb1.mono hbe.size)
     have HO1:=hid (ownsRow_below HOWN.out hb1)
     have HU:=hid (intsAt_of_owns hu (by omega))
     have HK1:=hid ((hb1.block _ (Array.getElem?_eq_some_iff.1 HKK.out).1).trans HKK.out)
     have hsz:=hbe1.size
     clear hu hb1 d0 d1 d2 hbe HC
     go_wp2_with (at_builtin;refine wpList_append_ints rfl _ _ rfl w.heap.size u8 rfl m (intVals (cellsAll t ((List.replicate mm (q:Int)).take i))) HO1.out (by omega) u cq rfl HU.out (by omega) hsz ?_)
     intro v' w2 hown' hgrow
     have hbe2:=hbe1.grown hgrow hsz (fun g hg=>by
      rcases HO1.out.2 with ⟨rfl,_⟩ | ⟨g',_,_,rfl,hg',_⟩
      ·cases hg
      ·have:g'=g:=by simpa [Value.ownBlock] using hg
       omega)
     have HK2:=hid ((hgrow.block _ (Array.getElem?_eq_some_iff.1 HK1.out).1 (fun e=>row_other HO1.out HK1.out (by decide) e.symm)).trans HK1.out)
     have HO2:Hid (w2.ownsRow w.heap.size 3 1 v' (m+cq.length) (intVals (cellsAll t ((List.replicate mm (q:Int)).take (i+1))))):=by show World.ownsRow _ _ _ _ _ _ _;rw [HTI.out,intVals_append,List.take_replicate];exact hown'
     clear hgrow hown' hbe1
     go_wp2
     go_roundg (gk - 1)
     case measure=>have:=HI.out;omega
     case rel=>exact ⟨i+1,by have:=HI.out;omega,by go_num,⟨_,HO2.out⟩,hbe2,HK2.out⟩
    ·obtain rfl:i=mm:=by have:=HI.out;omega
     rw [List.take_of_length_le (by simp)] at HOWN
     clear hown
     go_wp2
     go_ret
     exact ⟨_,m,rfl,HOWN.out,hbe⟩
  have hs:scalarK x.kind=true:=by
   rcases mayX_kind hmay with h | h | h
   ·exact h
   ·exact absurd h h4
   ·exact absurd h h5
  rw [cellsOf_scalar hx hs]
  have hb1:=hb0.alloc (by simp) (.cells #[.int .i64 (k:Int)] 3)
  have ho:=(ownsRow_lit (w.alloc (.cells #[.int .u8 x.kind,.int .i64 x.elem,.int .i64 x.many,.slice pa x.parts.length pc] 43)) [.int .i64 (k:Int)] 3 1 rfl (by decide))
  rw [World.size_alloc] at ho
  have HO:=hid (owns_base (B:=w.heap.size) ho (by omega))
  clear ho
  clear ih hp hx hx' hmay hlow ht hfit HIH HPART HLEN HSP HK HP HT hs
  obtain ⟨xk,xe,xm,xp⟩:=x
  simp only at *
  have e4:(xk == 4)=false:=by simpa using h4
  have e5:(xk == 5)=false:=by simpa using h5
  generalize t.length=n at *
  clear h4 h5
  go_enter Tryz.func122,Tryz.ntmps122
  go_wp2
  go_ret
  exact ⟨_,1,rfl,HO.out,hb1⟩

theorem checkR_calls (t:List Ty) (v:Value) (w:World) (ht:TysAt w v t):Calls Tryz.prog 74 #[v] w (IntR (chkT t) w):=by
 have HT:=hid ht
 obtain ⟨to,tcap,rfl⟩:=ht.slice
 clear ht
 by_cases hmany:16 < t.length
 ·rw [chkT_many hmany]
  generalize t.length=n at *
  go_enter Tryz.func74,Tryz.ntmps74
  go_wp2
  go_ret
  exact ⟨rfl,Below.refl _ _⟩
 ·have hlen:t.length≤16:=by omega
  have hle:¬ (16:Int) < t.length:=by omega
  clear hmany
  go_enter Tryz.func74,Tryz.ntmps74
  go_wp2
  go_loopg [3] t.length (fun gk i wr=>∃ k:Nat,k+gk=t.length∧i=.int .i64 k∧Lows t k∧Below w.heap.size w wr)
  case atStart=>exact ⟨0,by omega,rfl,fun j hj=>absurd hj (by omega),Below.refl _ _⟩
  case round =>
   obtain ⟨k,hk,rfl,hlow,hbe⟩:=hrel
   have HK:=hid hk
   have HLOW:=hid hlow
   by_cases hlt:k < t.length
   ·have hx:=List.getElem?_eq_getElem hlt
    have HM:=hid (mayType_calls t _ k _ wr (HT.out.below hbe) hx)
    have HX:=hid hx
    generalize t[k]=x at *
    have HFT:=hid (fun (hm:mayX t k x=true)=>(show Fit t (k:Int) from ⟨by omega,by omega,by rw [Int.toNat_natCast,mayB_at HX.out];exact hm,HLOW.out⟩))
    have HSZ:=hid (fun (hm:mayX t k x=true) wx (hw:Below w.heap.size w wx)=>of_any (k+1) t _ k wx (HT.out.below hw) (by omega) (HFT.out hm))
    have HFIT:=hid (fun (hm:mayX t k x=true)=>len_fit (HFT.out hm))
    clear hx hlow hk
    cases hm:mayX t k x with
    | false =>
     rw [hm] at HM
     have HE:=hid (chkT_bad hlen hlt (good_no HX.out hm))
     clear hm HSZ HFIT HFT
     generalize t.length=n at *
     go_wp2_with fail
     refine HM.out.mono ?_
     rintro e w1 ⟨rfl,hb1⟩
     have hbe1:=hbe.trans (hb1.mono hbe.size)
     clear hb1
     go_wp2
     go_ret
     exact ⟨by rw [HE.out];rfl,hbe1⟩
    | true =>
     rw [hm] at HM
     have HS2:=hid (HSZ.out hm)
     have hfit:=HFIT.out hm
     have HY:=hid (fun h=>lows_succ HLOW.out (good_yes HX.out hm h))
     have HE:=hid (fun (h:32 < (cellsOf t k).length)=>chkT_bad hlen hlt (good_big h))
     rw [Int.toNat_natCast] at hfit
     clear hm HSZ HFIT HFT
     generalize cellsOf t k=cl at *
     generalize t.length=n at *
     go_wp2_with fail
     refine HM.out.mono ?_
     rintro e w1 ⟨rfl,hb1⟩
     have hbe1:=hbe.trans (hb1.mono hbe.size)
     have HS3:=hid (HS2.out w1 hbe1)
     clear hb1 HS2
     by_cases hbig:32 < cl.length
     ·have hbi:(32:Int) < cl.length:=by omega
      have HE2:=hid (HE.out hbig)
      clear HE HY hbig
      go_wp2_with fail
      refine HS3.out.mono ?_
      rintro e w2 ⟨u,m,rfl,hu,hb2⟩
      have hbe2:=hbe1.trans (hb2.mono hbe1.size)
      obtain ⟨ua,uc,rfl,_⟩:=ints_slice (intsAt_of_owns hu (by omega))
      clear hb2 hu
      generalize cl.length=cn at *
      go_wp2
      go_ret
      exact ⟨by rw [HE2.out];rfl,hbe2⟩
     ·have hbi:¬ (32:Int) < cl.length:=by omega
      have HY2:=hid (HY.out (by omega))
      clear HE HY hbig
      go_wp2_with fail
      refine HS3.out.mono ?_
      rintro e w2 ⟨u,m,rfl,hu,hb2⟩
      have hbe2:=hbe1.trans (hb2.mono hbe1.size)
      obtain ⟨ua,uc,rfl,_⟩:=ints_slice (intsAt_of_owns hu (by omega))
      clear hb2 hu
      generalize cl.length=cn at *
      go_wp2
      go_roundg (gk - 1)
      case measure=>have:=HK.out;omega
      case rel=>exact ⟨k+1,by have:=HK.out;omega,by go_num,HY2.out,hbe2⟩
   ·obtain rfl:k=t.length:=by omega
    have HE:=hid (chkT_ok hlen hlow)
    clear hlow
    generalize t.length=n at *
    go_wp2
    go_ret
    exact ⟨by rw [HE.out];rfl,hbe⟩
end Go.Proofs.YtpejpnffcepdlaaGreatDoor.TyRB
