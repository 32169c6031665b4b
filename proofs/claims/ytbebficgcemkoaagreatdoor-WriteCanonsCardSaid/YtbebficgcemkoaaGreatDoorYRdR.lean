/- Walks over fescueref07.Read and fescueref08.Canon. -/
import Derived.Test.YtbebficgcemkoaaGreatDoorYWvLToWvC
import Derived.Test.YtbebficgcemkoaaGreatDoorYRdW
set_option maxRecDepth 100000
set_option maxHeartbeats 16000000
namespace Go.Proofs.YtbebficgcemkoaaGreatDoor.RdR
open Go.RowKit Go.Lib TyM TyP ShM ShP ShB IntO SetP LxM LxJ LxY RwO RdM RdN RdV RdB Aft RcP RcO RcT RcW RcY RcZ RdW
open ShI (POk chkP)
open LxP (LinesAt StrsAt OwnL)

theorem q81x1 {P:Prop} (h:P:=by
 clear hn hz hX5 hne5 hk5 hb5
 go_wp2
 (try simp only [Exit.inBlock,Exit.then])
 rw [← HX5.out]
 refine bodyPost_ret (by simp [results,Tryz.results31,go_sem,x0,x1];try rfl) rfl ?_
 exact ⟨_,by rw [HE2.out],by rw [HE2.out];exact pr_zero _,HB5.out⟩):P:=h
theorem readR_calls (s:ByteArray) (w:World):Calls Tryz.prog 31 #[.string s] w (ReadO s w):=by
 have hb0:=alloc_below w (.cells #[.slice none 0 0,.slice none 0 0] 28)
 have HL:=hid (LxQ.linesR_calls s (w.alloc (.cells #[.slice none 0 0,.slice none 0 0] 28)) )
 have HB0:=hid hb0
 have HN0:Hid ((w.alloc (.cells #[.slice none 0 0,.slice none 0 0] 28)).heap[w.heap.size]?=some (.cells #[.slice none 0 0,.slice none 0 0] 28 (0,0))):=alloc_new _ _
 have HOO:Hid (readO (un s)=if lnE (un s)=0 then (match programP (LxJ.mkL (lnT (un s))) with
  | none=>(70,px0)
  | some p=>if chkP p=0 then (0,p) else (chkP p,px0)) else (lnE (un s),px0)):=rfl
 have HPO:Hid (∀ (oo:Int × Px) e w',oo=readO (un s)→(∃ v,e=.returned (.tuple #[v,.int .i64 oo.1])∧PrAt w' v oo.2∧Below w.heap.size w w')→ReadO s w e w'):=fun oo e w' h1 h2=>by subst h1;exact h2
 have HFL:=hid (fun h=>fine_lines (s:=un s) h)
 unfold LxJ.LnR at HL
 generalize lnT (un s)=ll at *
 generalize hle:lnE (un s)=le at *
 clear hb0 hle
 obtain ⟨oo,hoo⟩:∃ o,o=readO (un s):=⟨_,rfl⟩
 have HE:Hid (oo=if le=0 then (match programP (LxJ.mkL ll) with
  | none=>(70,px0)
  | some p=>if chkP p=0 then (0,p) else (chkP p,px0)) else (le,px0)):=by show _=_;rw [hoo];exact HOO.out
 refine Calls.mono (R:=fun e w'=>∃ v,e=.returned (.tuple #[v,.int .i64 oo.1])∧PrAt w' v oo.2∧Below w.heap.size w w') ?_ (fun e w' h=>HPO.out oo e w' hoo h)
 clear hoo HOO HPO
 go_enter Tryz.func31,Tryz.ntmps31
 go_wp2_with fail
 refine HL.out.mono ?_
 rintro e w1 ⟨u,r,rfl,hr,how,hb1⟩
 have HB1:=hid (HB0.out.trans (hb1.mono HB0.out.size))
 have HN1:=hid ((hb1.block w.heap.size (by simp)).trans HN0.out)
 have HS1:Hid (w.heap.size < w1.heap.size):=by have:=hb1.size;show _ < _;simp only [World.size_alloc] at this;omega
 have HR:=hid hr
 have HOW:=hid how
 clear hr how hb1 HL HN0 HB0
 by_cases h0:le=0
 rotate_left
 ·have hne:(le != 0)=true:=by simpa using h0
  have HE2:Hid (oo=(le,px0)):=by show _=_;rw [HE.out,if_neg h0]
  clear HE h0 HFL HOW HR
  have hn:=HN1.out
  have y0:=cells_of hn 0 _ rfl;have y1:=cells_of hn 1 _ rfl
  have hz:=(ShTB.cells_heap hn).2
  have z0:=hz 0;have z1:=hz 1
  obtain ⟨X5,hX5,hne5,hk5,hb5⟩:=set2_world w1 w.heap.size 28 (.slice none 0 0) (.slice none 0 0) (.slice none 0 0) (.slice none 0 0) hn
  have HX5:=hid hX5
  have HB5:=hid (hb5 w.heap.size w HB1.out (Nat.le_refl _))
  have x0:=cells_of hk5 0 _ rfl;have x1:=cells_of hk5 1 _ rfl
  clear HN1 HS1
  exact q81x1
 subst h0
 have HF:=hid (HFL.out rfl)
 have hru:r.length≤9223372036854775807:=by
  have h1:=HF.out.1
  rw [← HR.out,List.length_map] at h1
  omega
 have hli:LinesAt w1 u (LxJ.mkL ll):=by
  rw [← HR.out]
  exact HOW.out.lines hru fun x hx=>by
   have h1:=(HF.out.2 x.1 (by rw [← HR.out];exact List.mem_map_of_mem hx)).2.1
   omega
 have HPC:=hid (RdW.programR_calls (LxJ.mkL ll) u w1 hli HF.out)
 obtain ⟨ua,uc,rfl⟩:=LxP.own_slice HOW.out.1
 clear HFL hru hli HOW
 cases hp:programP (LxJ.mkL ll) with
 | none =>
  have HE2:Hid (oo=(70,px0)):=by show _=_;rw [HE.out,if_pos rfl,hp]
  rw [hp] at HPC
  clear HE hp
  generalize r.length=rl at *
  go_wp2_with fail
  refine HPC.out.mono ?_
  rintro e w2 ⟨v,q,rfl,hq,hpn,hb2⟩
  obtain ⟨ta,tn,tc,fa,fk,fc,rfl⟩:=pr_agg (hpn w2 fun _ _ _=>rfl)
  clear hq hpn
  obtain ⟨X3,hX3⟩:∃ X,X=w2.alloc (.cells #[.slice ta tn tc,.slice fa fk fc] 28):=⟨_,rfl⟩
  have hb3:Below w2.heap.size w2 X3:=by rw [hX3];exact alloc_below _ _
  have HX3:=hid hX3
  have HB3:=hid (HB1.out.trans ((hb2.mono (Nat.le_of_lt HS1.out)).trans (hb3.mono (by have:=HS1.out;have:=hb2.size;omega))))
  have HN3:=hid ((hb3.block _ (by have:=HS1.out;have:=hb2.size;omega)).trans ((hb2.block _ HS1.out).trans HN1.out))
  clear hb2 hb3 hX3 HPC HN1 HB1
  go_upto_region 6 with fail
  rw [← HX3.out]
  have hn:=HN3.out
  have y0:=cells_of hn 0 _ rfl;have y1:=cells_of hn 1 _ rfl
  have hz:=(ShTB.cells_heap hn).2
  have z0:=hz 0;have z1:=hz 1
  obtain ⟨X5,hX5,hne5,hk5,hb5⟩:=set2_world X3 w.heap.size 28 (.slice none 0 0) (.slice none 0 0) (.slice none 0 0) (.slice none 0 0) hn
  have HX5:=hid hX5
  have HB5:=hid (hb5 w.heap.size w HB3.out (Nat.le_refl _))
  have x0:=cells_of hk5 0 _ rfl;have x1:=cells_of hk5 1 _ rfl
  clear HN3 HX3
  exact q81x1
 | some q =>
  have hok:=prog_ok HF.out hp
  have HE2:Hid (oo=if chkP q=0 then (0,q) else (chkP q,px0)):=by show _=_;rw [HE.out,if_pos rfl,hp]
  rw [hp] at HPC
  have HOK:=hid hok
  clear HE hp hok
  generalize r.length=rl at *
  go_wp2_with fail
  refine HPC.out.mono ?_
  rintro e w2 ⟨v,q2,rfl,hq,hpn,hb2⟩
  rw [hq q rfl] at hpn
  have hpr:PrAt w2 v q:=hpn w2 fun _ _ _=>rfl
  obtain ⟨ta,tn,tc,fa,fk,fc,rfl⟩:=pr_agg hpr
  obtain ⟨X3,hX3⟩:∃ X,X=w2.alloc (.cells #[.slice ta tn tc,.slice fa fk fc] 28):=⟨_,rfl⟩
  have hb3:Below w2.heap.size w2 X3:=by rw [hX3];exact alloc_below _ _
  have HX3:=hid hX3
  have HQ3:Hid (X3.heap[w2.heap.size]?=some (.cells #[.slice ta tn tc,.slice fa fk fc] 28 (0,0))):=by show _=_;rw [hX3];exact alloc_new _ _
  have HPN:=hid hpn
  have HB23:=hid hb3
  have HC:=hid (ShRG.checkP_calls q _ X3 (hpr.below hb3) HOK.out.1 HOK.out.2)
  have HSZ:Hid (w2.heap.size < X3.heap.size):=by show _ < _;rw [hX3];simp
  have HB3:=hid (HB1.out.trans ((hb2.mono (Nat.le_of_lt HS1.out)).trans (hb3.mono (by have:=HS1.out;have:=hb2.size;omega))))
  have HN3:=hid ((hb3.block _ (by have:=HS1.out;have:=hb2.size;omega)).trans ((hb2.block _ HS1.out).trans HN1.out))
  have HS3:Hid (w.heap.size < w2.heap.size):=by have:=hb2.size;have:=HS1.out;show _ < _;omega
  have f0:=cells_of HQ3.out 0 _ rfl
  have f1:=cells_of HQ3.out 1 _ rfl
  rw [hX3] at f0 f1
  clear hb2 hb3 hX3 HPC HN1 HB1 hpr hpn hq
  go_wp2_with fail
  rw [← HX3.out]
  clear HX3 f0 f1
  refine HC.out.mono ?_
  rintro e w4 ⟨rfl,hb4⟩
  have HB4:=hid (HB3.out.trans (hb4.mono (by have:=HS3.out;have:=HSZ.out;omega)))
  have HN4:=hid ((hb4.block _ (by have:=HS3.out;have:=HSZ.out;omega)).trans HN3.out)
  have HQ4:=hid ((hb4.block _ HSZ.out).trans HQ3.out)
  have HB34:=hid hb4
  clear hb4 HC HB3 HN3 HQ3
  generalize chkP q=ce at *
  by_cases hc:ce=0
  ·subst hc
   rw [if_pos rfl] at HE2
   have f0:=cells_of HQ4.out 0 _ rfl
   have f1:=cells_of HQ4.out 1 _ rfl
   have hn:=HN4.out
   have y0:=cells_of hn 0 _ rfl;have y1:=cells_of hn 1 _ rfl
   have hz:=(ShTB.cells_heap hn).2
   have z0:=hz 0;have z1:=hz 1
   obtain ⟨X5,hX5,hne5,hk5,hb5⟩:=set2_world w4 w.heap.size 28 (.slice none 0 0) (.slice none 0 0) (.slice ta tn tc) (.slice fa fk fc) hn
   have HX5:=hid hX5
   have HB5:=hid (hb5 w.heap.size w HB4.out (Nat.le_refl _))
   have x0:=cells_of hk5 0 _ rfl;have x1:=cells_of hk5 1 _ rfl
   have HPR5:Hid (PrAt X5 (.agg #[.slice ta tn tc,.slice fa fk fc]) q):=HPN.out X5 fun k h1 h2=>by
    have h3:=HS1.out
    have h4:=HSZ.out
    exact (hne5 k (by omega)).trans ((HB34.out.block k (by omega)).trans (HB23.out.block k h2))
   clear HN4 HQ4 HPN HB34 HB23
   clear hn hz hX5 hne5 hk5 hb5
   go_wp2
   (try simp only [Exit.inBlock,Exit.then])
   rw [← HX5.out]
   refine bodyPost_ret (by simp [results,Tryz.results31,go_sem,x0,x1];try rfl) rfl ?_
   exact ⟨_,by rw [HE2.out],by rw [HE2.out];exact HPR5.out,HB5.out⟩
  ·rw [if_neg hc] at HE2
   have hne:(ce != 0)=true:=by simpa using hc
   have hn:=HN4.out
   have y0:=cells_of hn 0 _ rfl;have y1:=cells_of hn 1 _ rfl
   have hz:=(ShTB.cells_heap hn).2
   have z0:=hz 0;have z1:=hz 1
   obtain ⟨X5,hX5,hne5,hk5,hb5⟩:=set2_world w4 w.heap.size 28 (.slice none 0 0) (.slice none 0 0) (.slice none 0 0) (.slice none 0 0) hn
   have HX5:=hid hX5
   have HB5:=hid (hb5 w.heap.size w HB4.out (Nat.le_refl _))
   have x0:=cells_of hk5 0 _ rfl;have x1:=cells_of hk5 1 _ rfl
   clear HN4 HQ4 hc
   exact q81x1
end Go.Proofs.YtbebficgcemkoaaGreatDoor.RdR
namespace Go.Proofs.YtbebficgcemkoaaGreatDoor.WvC
open Go.RowKit Go.Lib TyM TyP ShM ShP ShI LxM LxP LxK LxJ LxN RdM RdN RdV RcO RcZ NumP WrM WrI WrP WrC WrT WkJ WkF WkB WkW WvW Aft

theorem canonR_calls (s:ByteArray) (w:World) :
  Calls Tryz.prog 17 #[.string s] w (TextR (canonO (un s)) w):=by
 have HRD:=hid (RdR.readR_calls s w)
 have HWR:=hid (fun (h:(readO (un s)).1=0) v wx (hp:PrAt wx v (readO (un s)).2)=>writeR_calls (readO (un s)).2 v wx hp (read_small h).1 (read_small h).2.1 (read_small h).2.2)
 have HE:Hid (canonO (un s)=if (readO (un s)).1=0 then writeO (readO (un s)).2 else ((readO (un s)).1,[])):=rfl
 unfold ReadO at HRD
 generalize canonO (un s)=co at *
 generalize readO (un s)=ro at *
 obtain ⟨re,rp⟩:=ro
 simp only at *
 generalize writeO rp=wo at *
 go_enter Tryz.func17,Tryz.ntmps17
 go_wp2_with fail
 refine HRD.out.mono ?_
 rintro e w2 ⟨v,rfl,hp,hb⟩
 obtain ⟨ta,tn,tc,fa,fn,fc,rfl⟩:=pr_agg hp
 have hb2:=hb.trans ((LxP.alloc_below w2 (.cells #[.slice ta tn tc,.slice fa fn fc] 28)).mono hb.size)
 have HB2:=hid hb2
 have hp2:=hp.below (LxP.alloc_below w2 (.cells #[.slice ta tn tc,.slice fa fn fc] 28))
 have HP2:=hid hp2
 clear hb hp hb2 hp2 HRD
 by_cases hc:re=0
 ·have HE1:=hid (HE.out.trans (if_pos hc))
  have HC:=hid (HWR.out hc _ _ HP2.out)
  clear HE HWR HP2
  go_wp2_with fail
  refine HC.out.mono ?_
  rintro e w3 ⟨rfl,hb3⟩
  have HB:=hid (HB2.out.trans (hb3.mono HB2.out.size))
  clear HC hb3 HB2
  obtain ⟨a,b⟩:=wo
  simp only at *
  go_wp2
  go_ret2
  rw [HE1.out]
  exact ⟨rfl,HB.out⟩
 ·have HE1:=hid (HE.out.trans (if_neg hc))
  clear HE HWR HP2
  go_wp2
  go_ret2
  rw [HE1.out]
  exact ⟨rfl,HB2.out⟩
end Go.Proofs.YtbebficgcemkoaaGreatDoor.WvC
