/- Walks over shape.Check, find and Regs. A function that may be: plain facts. -/
import Derived.Test.YtbebficgcemkoaaGreatDoorYShFToShH
import Derived.Test.YtbebficgcemkoaaGreatDoorYTyEToTyS
set_option maxRecDepth 100000
set_option maxHeartbeats 16000000
namespace Go.Proofs.YtbebficgcemkoaaGreatDoor.ShI
open Go.RowKit Go.Lib SetP IntO TyM TyP TyB TyC ShM ShP ShA ShB ShC ShE ShQ ShF ShG ShH

def POk (p:Px):Prop:=∀ f∈p.funcs,∀ b∈f.blocks,(0≤b.en.kind∧b.en.kind≤255)∧∀ y∈b.ins,0≤y.op∧y.op≤255
def chkP (p:Px):Int:=if chkT p.types≠0 then chkT p.types else if p.funcs.length < 1∨8 < p.funcs.length then 60 else if p.funcs.all (mayF p.types p.funcs.length)=true then 0 else 60
theorem all_take {α:Type} {q:α→Bool} {l:List α} {k:Nat} (hk:k < l.length) (h:(l.take k).all q=true) (hp:q l[k]=true):(l.take (k+1)).all q=true:=by
 rw [List.take_succ_eq_append_getElem hk,List.all_append,h]
 simp [hp]
theorem all_not {α:Type} {q:α→Bool} {l:List α} {k:Nat} (hk:k < l.length) (hp:q l[k]=false):¬ l.all q=true:=fun h=>by
 have:=List.all_eq_true.1 h _ (List.getElem_mem hk)
 rw [hp] at this;cases this

theorem q102x1 {P:Prop} (h:P:=by
 go_enter Tryz.func18,Tryz.ntmps18
 go_wp2_with fail
 refine HCK.out.mono ?_
 rintro e w1 ⟨rfl,hb1⟩
 obtain ⟨f1,_,s1,_⟩:=copyF (alloc_new _ _) hb1 (by simp only [World.size_alloc];omega)
 have hbe:=HB0.out.trans (hb1.mono HB0.out.size)
 have p0:=f1 0 (by simp);have p1:=f1 1 (by simp)
 simp only [List.getElem_toArray,List.getElem_cons_succ,List.getElem_cons_zero] at p0 p1
 clear HCK hb1 f1 hn
 go_wp2
 all_goals (try (exfalso;omega))
 go_ret
 exact ⟨by rw [HD.out];rfl,hbe⟩):P:=h
theorem check_calls (p:Px) (v:Value) (w:World) (hp:PrAt w v p) (htab:Tab w) (hs:Small p) (hok:POk p) :
  Calls Tryz.prog 18 #[v] w (NumR (chkP p) w):=by
 obtain ⟨vt,vf,rfl,ht,hf⟩:=hp
 have hb0:=alloc_below w (.cells #[vt,vf] 28)
 have HCK:=hid (TyS.check_calls p.types vt _ (ht.below hb0))
 have HT:=hid ht
 have HF:=hid hf
 have HTAB:=hid htab
 have HB0:=hid hb0
 have HS:=hid hs
 have HOK:=hid hok
 obtain ⟨ta,tc,rfl⟩:=ht.slice
 obtain ⟨fa,fc,rfl,hfl⟩:=hf.slice
 have HD:Hid (chkP p=if chkT p.types≠0 then chkT p.types else if p.funcs.length < 1∨8 < p.funcs.length then 60 else if p.funcs.all (mayF p.types p.funcs.length)=true then 0 else 60):=rfl
 clear ht hf htab hb0 hs hok
 generalize chkP p=ans at *
 by_cases hc:chkT p.types=0
 rotate_left
 ·rw [if_pos hc] at HD
  have e0:(chkT p.types != 0)=true:=by simpa using hc
  generalize chkT p.types=ct at *
  clear HT HF HTAB HS HOK
  generalize p.types.length=n1 at *
  generalize p.funcs.length=n2 at *
  go_enter Tryz.func18,Tryz.ntmps18
  go_wp2_with fail
  refine HCK.out.mono ?_
  rintro e w1 ⟨rfl,hb1⟩
  have hbe:=HB0.out.trans (hb1.mono HB0.out.size)
  clear HCK hb1 hc
  go_wp2
  go_ret
  exact ⟨by rw [HD.out];rfl,hbe⟩
 rw [if_neg (fun h=>h hc)] at HD
 rw [hc] at HCK
 clear hc
 by_cases hn:p.funcs.length < 1∨8 < p.funcs.length
 ·rw [if_pos hn] at HD
  clear HT HF HTAB HS HOK
  generalize p.types.length=n1 at *
  generalize p.funcs.length=n2 at *
  by_cases hn1:(n2:Int) < 1
  ·skip
   exact q102x1
  ·have h17:(8:Int) < n2:=by omega
   exact q102x1
 rw [if_neg hn] at HD
 have g1:¬ (p.funcs.length:Int) < 1:=by omega
 have g8:¬ (8:Int) < p.funcs.length:=by omega
 have hn10:p.funcs.length≤10:=by omega
 clear hn
 go_enter Tryz.func18,Tryz.ntmps18
 go_wp2_with fail
 refine HCK.out.mono ?_
 rintro e w1 ⟨rfl,hb1⟩
 have hbe:=HB0.out.trans (hb1.mono HB0.out.size)
 obtain ⟨f1,_,s1,k1⟩:=copyF (alloc_new _ _) hb1 (by simp only [World.size_alloc];omega)
 have p0:=f1 0 (by simp);have p1:=f1 1 (by simp)
 simp only [List.getElem_toArray,List.getElem_cons_succ,List.getElem_cons_zero] at p0 p1
 have HK1:=hid k1
 have HBE:=hid hbe
 clear HCK hb1 f1 k1 hbe
 go_wp2_with fail
 all_goals (try (exfalso;omega))
 go_loopg [25] p.funcs.length (fun gk i wr=>∃ k:Nat,k+gk=p.funcs.length∧i=.int .i64 k∧(p.funcs.take k).all (mayF p.types p.funcs.length)=true∧Below w1.heap.size w1 wr)
 case atStart=>exact ⟨0,by omega,rfl,rfl,Below.refl _ _⟩
 case round =>
  obtain ⟨k,hk,rfl,hall,hbr⟩:=hrel
  have HK:=hid hk
  have HALL:=hid hall
  have hbw:=HBE.out.trans (hbr.mono HBE.out.size)
  clear p0 p1
  obtain ⟨f1,_,s1,_⟩:=copyF HK1.out hbr (Array.getElem?_eq_some_iff.1 HK1.out).1
  have p0:=f1 0 (by simp);have p1:=f1 1 (by simp)
  simp only [List.getElem_toArray,List.getElem_cons_succ,List.getElem_cons_zero] at p0 p1
  clear hall f1
  by_cases hlt:k < p.funcs.length
  ·obtain ⟨b,off,rfl,hbs,vb,c0,c1,hbl⟩:=(HF.out.below fnStays hbw).at k hlt
   have hb2:=alloc_below wr (.cells #[.int .i64 p.funcs[k].sig,vb] 49)
   have hmem:=List.getElem_mem hlt
   have HC:=hid (mayFunc_calls p.types p.funcs.length p.funcs[k] (.slice ta p.types.length tc) vb (some ⟨b,off,none⟩) fc _ ((HT.out.below hbw).below hb2) (hbl.below blkStays hb2) ((HTAB.out.on hbw).on hb2) (HS.out.many _ hmem) HS.out.parts (HOK.out _ hmem))
   have HA:=hid (all_take (q:=mayF p.types p.funcs.length) hlt HALL.out)
   have HN:=hid (all_not (q:=mayF p.types p.funcs.length) hlt)
   have hbr2:=hbr.trans (hb2.mono hbr.size)
   obtain ⟨va,vc,rfl,_⟩:=hbl.slice
   have HBR:=hid hbr2
   clear hbl hk hmem hbr hb2 hbr2
   generalize mayF p.types p.funcs.length p.funcs[k]=q at *
   generalize p.funcs[k]=x at *
   cases q with
   | false =>
    have HN2:=hid (HN.out rfl)
    clear HA HN
    go_wp2_with fail
    refine HC.out.mono ?_
    rintro e w3 ⟨rfl,hb3⟩
    have hbe3:=HBR.out.trans (hb3.mono HBR.out.size)
    clear HC hb3
    go_wp2
    go_ret
    exact ⟨by rw [HD.out,if_neg HN2.out];rfl,HBE.out.trans (hbe3.mono HBE.out.size)⟩
   | true =>
    have HA2:=hid (HA.out rfl)
    clear HA HN
    go_wp2_with fail
    refine HC.out.mono ?_
    rintro e w3 ⟨rfl,hb3⟩
    have hbe3:=HBR.out.trans (hb3.mono HBR.out.size)
    clear HC hb3
    go_wp2
    go_roundg (gk - 1)
    case measure=>have:=HK.out;omega
    case rel=>exact ⟨k+1,by have:=HK.out;omega,by go_num,HA2.out,hbe3⟩
  ·obtain rfl:k=p.funcs.length:=by omega
   have HA2:Hid (ans=0):=by
    show _=_
    have:=HALL.out
    rw [List.take_length] at this
    rw [HD.out,if_pos this]
   clear hk
   go_wp2
   go_ret
   exact ⟨by rw [HA2.out];rfl,hbw⟩

end Go.Proofs.YtbebficgcemkoaaGreatDoor.ShI
namespace Go.Proofs.YtbebficgcemkoaaGreatDoor.ShJ
open Go.RowKit Go.Lib SetP IntO TyM TyP TyB TyC ShM ShP ShA ShB ShC ShE ShQ ShF ShG ShH ShI

theorem chk_zero {p:Px} (h:chkP p=0):chkT p.types=0∧1≤p.funcs.length∧p.funcs.length≤8∧∀ f∈p.funcs,mayF p.types p.funcs.length f=true:=by
 unfold chkP at h
 by_cases h1:chkT p.types=0
 ·rw [if_neg (fun e=>e h1)] at h
  by_cases h2:p.funcs.length < 1∨8 < p.funcs.length
  ·rw [if_pos h2] at h;omega
  ·rw [if_neg h2] at h
   by_cases h3:p.funcs.all (mayF p.types p.funcs.length)=true
   ·exact ⟨h1,by omega,by omega,List.all_eq_true.1 h3⟩
   ·rw [if_neg h3] at h;omega
 ·rw [if_pos h1] at h;exact absurd h h1
theorem may_zero {t:List Ty} {nf:Nat} {f:Fx} (h:mayF t nf f=true):(0≤f.sig∧f.sig < t.length)∧kindAt t f.sig=3∧1≤f.blocks.length∧f.blocks.length≤16∧manyB f.blocks≤128:=by
 unfold mayF at h
 by_cases h1:0≤f.sig∧f.sig < t.length
 ·rw [if_neg (fun e=>e h1)] at h
  by_cases h2:kindAt t f.sig=3
  ·rw [if_neg (fun e=>e h2)] at h
   by_cases h3:f.blocks.length < 1∨16 < f.blocks.length∨128 < manyB f.blocks
   ·rw [if_pos h3] at h;cases h
   ·exact ⟨h1,h2,by omega,by omega,by omega⟩
  ·rw [if_pos h2] at h;cases h
 ·rw [if_pos h1] at h;cases h
structure Has1 (p:Px) (f:Int) (k:Nat) (x:Fx):Prop where
 eq:f=k
 lt:k < p.funcs.length
 at_:p.funcs[k]?=some x
 sig0:0≤x.sig
 sig1:x.sig < p.types.length
 blocks1:1≤x.blocks.length
 blocks:x.blocks.length≤16
 many:manyB x.blocks≤128
theorem fn_at {w:World} {vf:Value} {p:Px} {f:Int} {k:Nat} {x:Fx} (h:FnsAt w vf p.funcs) (h1:Has1 p f k x):∃ b off cap vb,vf=.slice (some ⟨b,off,none⟩) p.funcs.length cap∧b < w.heap.size∧w.cell? ⟨b,off+k * 2,none⟩=some (.int .i64 x.sig)∧w.cell? ⟨b,off+k * 2+1,none⟩=some vb∧BlksAt w vb x.blocks:=by
 obtain ⟨ao,cap,rfl,_⟩:=h.slice
 obtain ⟨b,off,rfl,hb,vb,c0,c1,hbl⟩:=h.at k h1.lt
 have:p.funcs[k]'h1.lt=x:=by
  have:=h1.at_
  rw [List.getElem?_eq_getElem h1.lt] at this
  exact Option.some.inj this
 rw [this] at c0 hbl
 exact ⟨b,off,cap,vb,rfl,hb,c0,c1,hbl⟩

end Go.Proofs.YtbebficgcemkoaaGreatDoor.ShJ
