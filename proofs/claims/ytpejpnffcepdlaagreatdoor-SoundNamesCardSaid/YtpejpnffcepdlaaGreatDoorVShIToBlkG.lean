/- Walks over shape.Check, find and Regs. Plain facts on how blocks follow each other: where they go, what is reached, the order, rounds. Plain facts on which blocks all ways go through: rulers, and the ruler next to a block. Plain facts on rulers found round by round, a bit each: where nothing turns any more, a block has just the bits of those that rule it. Walks over dom's small functions: below, place, set, has. Plain facts on which registers are read yet: to live at a place, step by step; the rounds over blocks. Programs that have been written out: rows in blocks of their own. Walk over shape.find. A function that may be: plain facts. What layer 9 answers of a program, in plain: errors, and lists of numbers. The order behind, from some blocks on, in plain: what is begun, and what stands in it. What flow.walk keeps in memory: the blocks, a set of those begun, a row of those behind; what is apart from it. Functions, and blocks' ends, in memory, in every world behind. The first of those ahead, in plain. Plain facts on a search through a graph of few vertices: a list that grows by what its own members go to. What is asked of the package flow: its functions' contracts, as propositions. A list's cells, by what stands at a place. A block's and an instruction's cells, by insAt and endAt, in every world behind. -/
import Derived.Test.YtpejpnffcepdlaaGreatDoorVShFToShH
import Derived.Test.YtpejpnffcepdlaaGreatDoorVTyEToTyQ
import Derived.Test.YtpejpnffcepdlaaGreatDoorVTyMToShN
import Derived.Test.YtpejpnffcepdlaaGreatDoorVShE
import Derived.Test.YtpejpnffcepdlaaGreatDoorVDmX
import Derived.Test.YtpejpnffcepdlaaGreatDoorVIntOToSwXd
import Derived.Laws.BitsAllLaws
import Derived.Laws.Cover3
import Derived.Test.YtpejpnffcepdlaaGreatDoorVFwRToRwO
import Derived.Test.YtpejpnffcepdlaaGreatDoorVTyBToTyTI
import Derived.Maps.OwnSet
import Derived.Test.YtpejpnffcepdlaaGreatDoorVShAToShAn
set_option maxRecDepth 100000
set_option maxHeartbeats 16000000
namespace Go.Proofs.YtpejpnffcepdlaaGreatDoor.ShI
open Go.RowKit Go.Lib SetP IntO TyM TyP TyB TyC ShM ShP ShA ShB ShC ShE ShQ ShF ShG ShH

def POk (p:Px):Prop:=∀ f∈p.funcs,∀ b∈f.blocks,(0≤b.en.kind∧b.en.kind≤255)∧∀ y∈b.ins,0≤y.op∧y.op≤255
def chkP (p:Px):Int:=if chkT p.types≠0 then chkT p.types else if p.funcs.length < 1∨8 < p.funcs.length then 60 else if p.funcs.all (mayF p.types p.funcs.length)=true then 0 else 60
def findP (p:Px) (f:Int):Int:=if chkP p≠0 then chkP p else if 0≤f∧f < p.funcs.length then 0 else 2
theorem all_take {α:Type} {q:α→Bool} {l:List α} {k:Nat} (hk:k < l.length) (h:(l.take k).all q=true) (hp:q l[k]=true):(l.take (k+1)).all q=true:=by
 rw [List.take_succ_eq_append_getElem hk,List.all_append,h]
 simp [hp]
theorem all_not {α:Type} {q:α→Bool} {l:List α} {k:Nat} (hk:k < l.length) (hp:q l[k]=false):¬ l.all q=true:=fun h=>by
 have:=List.all_eq_true.1 h _ (List.getElem_mem hk)
 rw [hp] at this;cases this

theorem check_calls (p:Px) (v:Value) (w:World) (hp:PrAt w v p) (htab:Tab w) (hs:Small p) (hok:POk p) :
  Calls Tryz.prog 28 #[v] w (NumR (chkP p) w):=by
 obtain ⟨vt,vf,rfl,ht,hf⟩:=hp
 have hb0:=alloc_below w (.cells #[vt,vf] 27)
 have HCK:=hid (TyS.check_calls p.types vt _ (ht.below hb0))
 have HT:=hid ht
 have HF:=hid hf
 have HTAB:=hid htab
 have HB0:=hid hb0
 have HS:=hid hs
 have HOK:=hid hok
 obtain ⟨ta,tc,rfl⟩:=ht.slice
 obtain ⟨fa,fc,rfl,hfl⟩:=hf.slice
 have HD:Hid (chkP p=if chkT p.types≠0 then chkT p.types else if p.funcs.length < 1∨8 < p.funcs.length then 60 else if p.funcs.all (mayF p.types p.funcs.length)=true then 0 else 60):=rfl
 clear ht hf htab hb0 hs hok
 generalize chkP p=ans at *
 by_cases hc:chkT p.types=0
 rotate_left
 ·rw [if_pos hc] at HD
  have e0:(chkT p.types != 0)=true:=by simpa using hc
  generalize chkT p.types=ct at *
  clear HT HF HTAB HS HOK
  generalize p.types.length=n1 at *
  generalize p.funcs.length=n2 at *
  go_enter Tryz.func28,Tryz.ntmps28
  go_wp2_with fail
  refine HCK.out.mono ?_
  rintro e w1 ⟨rfl,hb1⟩
  have hbe:=HB0.out.trans (hb1.mono HB0.out.size)
  clear HCK hb1 hc
  go_wp2
  go_ret
  exact ⟨by rw [HD.out];rfl,hbe⟩
 rw [if_neg (fun h=>h hc)] at HD
 rw [hc] at HCK
 clear hc
 by_cases hn:p.funcs.length < 1∨8 < p.funcs.length
 ·rw [if_pos hn] at HD
  clear HT HF HTAB HS HOK
  generalize p.types.length=n1 at *
  generalize p.funcs.length=n2 at *
  by_cases hn1:(n2:Int) < 1
  ·skip
   go_enter Tryz.func28,Tryz.ntmps28
   go_wp2_with fail
   refine HCK.out.mono ?_
   rintro e w1 ⟨rfl,hb1⟩
   obtain ⟨f1,_,s1,_⟩:=copyF (alloc_new _ _) hb1 (by simp only [World.size_alloc];omega)
   have hbe:=HB0.out.trans (hb1.mono HB0.out.size)
   have p0:=f1 0 (by simp);have p1:=f1 1 (by simp)
   simp only [List.getElem_toArray,List.getElem_cons_succ,List.getElem_cons_zero] at p0 p1
   clear HCK hb1 f1 hn
   go_wp2
   all_goals (try (exfalso;omega))
   go_ret
   exact ⟨by rw [HD.out];rfl,hbe⟩
  ·have h17:(8:Int) < n2:=by omega
   go_enter Tryz.func28,Tryz.ntmps28
   go_wp2_with fail
   refine HCK.out.mono ?_
   rintro e w1 ⟨rfl,hb1⟩
   obtain ⟨f1,_,s1,_⟩:=copyF (alloc_new _ _) hb1 (by simp only [World.size_alloc];omega)
   have hbe:=HB0.out.trans (hb1.mono HB0.out.size)
   have p0:=f1 0 (by simp);have p1:=f1 1 (by simp)
   simp only [List.getElem_toArray,List.getElem_cons_succ,List.getElem_cons_zero] at p0 p1
   clear HCK hb1 f1 hn
   go_wp2
   all_goals (try (exfalso;omega))
   go_ret
   exact ⟨by rw [HD.out];rfl,hbe⟩
 rw [if_neg hn] at HD
 have g1:¬ (p.funcs.length:Int) < 1:=by omega
 have g8:¬ (8:Int) < p.funcs.length:=by omega
 have hn10:p.funcs.length≤10:=by omega
 clear hn
 go_enter Tryz.func28,Tryz.ntmps28
 go_wp2_with fail
 refine HCK.out.mono ?_
 rintro e w1 ⟨rfl,hb1⟩
 have hbe:=HB0.out.trans (hb1.mono HB0.out.size)
 obtain ⟨f1,_,s1,k1⟩:=copyF (alloc_new _ _) hb1 (by simp only [World.size_alloc];omega)
 have p0:=f1 0 (by simp);have p1:=f1 1 (by simp)
 simp only [List.getElem_toArray,List.getElem_cons_succ,List.getElem_cons_zero] at p0 p1
 have HK1:=hid k1
 have HBE:=hid hbe
 clear HCK hb1 f1 k1 hbe
 go_wp2_with fail
 all_goals (try (exfalso;omega))
 go_loopg [25] p.funcs.length (fun gk i wr=>∃ k:Nat,k+gk=p.funcs.length∧i=.int .i64 k∧(p.funcs.take k).all (mayF p.types p.funcs.length)=true∧Below w1.heap.size w1 wr)
 case atStart=>exact ⟨0,by omega,rfl,rfl,Below.refl _ _⟩
 case round =>
  obtain ⟨k,hk,rfl,hall,hbr⟩:=hrel
  have HK:=hid hk
  have HALL:=hid hall
  have hbw:=HBE.out.trans (hbr.mono HBE.out.size)
  clear p0 p1
  obtain ⟨f1,_,s1,_⟩:=copyF HK1.out hbr (Array.getElem?_eq_some_iff.1 HK1.out).1
  have p0:=f1 0 (by simp);have p1:=f1 1 (by simp)
  simp only [List.getElem_toArray,List.getElem_cons_succ,List.getElem_cons_zero] at p0 p1
  clear hall f1
  by_cases hlt:k < p.funcs.length
  ·obtain ⟨b,off,rfl,hbs,vb,c0,c1,hbl⟩:=(HF.out.below fnStays hbw).at k hlt
   have hb2:=alloc_below wr (.cells #[.int .i64 p.funcs[k].sig,vb] 41)
   have hmem:=List.getElem_mem hlt
   have HC:=hid (mayFunc_calls p.types p.funcs.length p.funcs[k] (.slice ta p.types.length tc) vb (some ⟨b,off,none⟩) fc _ ((HT.out.below hbw).below hb2) (hbl.below blkStays hb2) ((HTAB.out.on hbw).on hb2) (HS.out.many _ hmem) HS.out.parts (HOK.out _ hmem))
   have HA:=hid (all_take (q:=mayF p.types p.funcs.length) hlt HALL.out)
   have HN:=hid (all_not (q:=mayF p.types p.funcs.length) hlt)
   have hbr2:=hbr.trans (hb2.mono hbr.size)
   obtain ⟨va,vc,rfl,_⟩:=hbl.slice
   have HBR:=hid hbr2
   clear hbl hk hmem hbr hb2 hbr2
   generalize mayF p.types p.funcs.length p.funcs[k]=q at *
   generalize p.funcs[k]=x at *
   cases q with
   | false =>
    have HN2:=hid (HN.out rfl)
    clear HA HN
    go_wp2_with fail
    refine HC.out.mono ?_
    rintro e w3 ⟨rfl,hb3⟩
    have hbe3:=HBR.out.trans (hb3.mono HBR.out.size)
    clear HC hb3
    go_wp2
    go_ret
    exact ⟨by rw [HD.out,if_neg HN2.out];rfl,HBE.out.trans (hbe3.mono HBE.out.size)⟩
   | true =>
    have HA2:=hid (HA.out rfl)
    clear HA HN
    go_wp2_with fail
    refine HC.out.mono ?_
    rintro e w3 ⟨rfl,hb3⟩
    have hbe3:=HBR.out.trans (hb3.mono HBR.out.size)
    clear HC hb3
    go_wp2
    go_roundg (gk - 1)
    case measure=>have:=HK.out;omega
    case rel=>exact ⟨k+1,by have:=HK.out;omega,by go_num,HA2.out,hbe3⟩
  ·obtain rfl:k=p.funcs.length:=by omega
   have HA2:Hid (ans=0):=by
    show _=_
    have:=HALL.out
    rw [List.take_length] at this
    rw [HD.out,if_pos this]
   clear hk
   go_wp2
   go_ret
   exact ⟨by rw [HA2.out];rfl,hbw⟩

end Go.Proofs.YtpejpnffcepdlaaGreatDoor.ShI
namespace Go.Proofs.YtpejpnffcepdlaaGreatDoor.FwP
open TyM ShM ShP ShE ShH ShI ShN FwM FwC

def toE (x:Ex):List Int:=if x.kind=1∨(x.kind=2∧x.to=x.els) then [x.to] else if x.kind=2 then [x.to,x.els] else []
def endAt (l:List Bx) (i:Nat):Ex:=(l[i]?.getD default).en
def succ (l:List Bx) (i:Nat):List Nat:=if i < l.length then (toE (endAt l i)).map Int.toNat else []
def Low (l:List Bx):Prop:=∀ i,i < l.length→∀ j∈toE (endAt l i),0≤j∧j < l.length
theorem succ_lt {l:List Bx} (h:Low l):∀ i,i < l.length→∀ j∈succ l i,j < l.length:=by
 intro i hi j hj
 unfold succ at hj
 rw [if_pos hi] at hj
 obtain ⟨x,hx,rfl⟩:=List.mem_map.1 hj
 have:=h i hi x hx
 omega
theorem succ_mem {l:List Bx} (h:Low l) {i j:Nat} (hi:i < l.length):j∈succ l i↔(j:Int)∈toE (endAt l i):=by
 unfold succ
 rw [if_pos hi,List.mem_map]
 constructor
 ·rintro ⟨x,hx,rfl⟩
  have:=h i hi x hx
  rwa [Int.toNat_of_nonneg this.1]
 ·intro hx
  exact ⟨_,hx,by omega⟩
theorem to_end {nr nb:Int} {x:Ex} (h:mayER nr nb x=true):∀ j∈toE x,0≤j∧j < nb:=by
 intro j hj
 unfold toE at hj
 unfold mayER at h
 split at h
 ·rename_i h1
  rw [if_pos (.inl h1)] at hj
  simp only [Bool.and_eq_true] at h
  rw [List.mem_singleton.1 hj]
  exact lowB_iff.1 h.2 x.to (by simp)
 split at h
 ·simp only [Bool.and_eq_true] at h
  split at hj
  ·rw [List.mem_singleton.1 hj]
   exact lowB_iff.1 h.2 x.to (by simp)
  ·exact lowB_iff.1 h.2 j hj
 split at h
 ·rename_i h1 h2 h3
  rw [if_neg (by omega),if_neg (by omega)] at hj
  cases hj
 ·cases h
theorem low_of {p:Px} {f:Fx} (h:chkP p=0) (ho:POk p) (hf:f∈p.funcs):Low f.blocks∧0 < f.blocks.length∧f.blocks.length≤16:=by
 unfold chkP at h
 split at h
 ·rename_i hc;exact absurd h hc
 split at h
 ·exact absurd h (by decide)
 split at h
 ·rename_i hall
  have hmf:=List.all_eq_true.1 hall f hf
  unfold mayF at hmf
  split at hmf
  ·cases hmf
  split at hmf
  ·cases hmf
  split at hmf
  ·cases hmf
  rename_i hbl
  refine ⟨fun i hi j hj=>?_,by omega,by omega⟩
  have hm:f.blocks[i]∈f.blocks:=List.getElem_mem hi
  have hbb:=List.all_eq_true.1 hmf _ hm
  unfold mayBl at hbb
  simp only [Bool.and_eq_true] at hbb
  have he:=hbb.1
  rw [mayE_eq (ho f hf _ hm).1.1] at he
  have hea:endAt f.blocks i=(f.blocks[i]).en:=by unfold endAt;rw [List.getElem?_eq_getElem hi];rfl
  rw [hea] at hj
  exact to_end he j hj
 ·exact absurd h (by decide)

/-! what is reached, the order, rounds, of a function's blocks -/
def aheadL (l:List Bx) (b:Nat):List Nat:=(List.range l.length).filter fun i=>decide (b∈succ l i)
def reachedL (l:List Bx):List Nat:=(List.range l.length).filter fun i=>has (comeO (succ l) (-1) l.length [0]) i
def orderedL (l:List Bx):List Nat:=order (succ l) l.length
theorem ahead_mem {l:List Bx} {a b:Nat} : a∈aheadL l b↔a < l.length∧b∈succ l a:=by
 unfold aheadL
 rw [List.mem_filter,List.mem_range,decide_eq_true_iff]
theorem reached_mem {l:List Bx} (h:Low l) (h0:0 < l.length) (v:Nat):v∈reachedL l↔FwM.Comes (succ l) 0 v:=by
 unfold reachedL
 rw [List.mem_filter,List.mem_range,come_iff (succ_lt h) (fun a ha=>by rw [List.mem_singleton.1 ha];exact h0),way_comes (by decide)]
 constructor
 ·rintro ⟨_,a,ha,hc⟩
  rw [List.mem_singleton.1 ha] at hc
  exact hc
 ·intro hc
  exact ⟨hc.lt (succ_lt h) h0,0,by simp,hc⟩
theorem reached_up (l:List Bx):(reachedL l).Pairwise (· < ·):=List.Pairwise.filter _ List.pairwise_lt_range
theorem pair_nodup {l:List Nat} (h:l.Pairwise (· < ·)):l.Nodup:=h.imp fun h e=>absurd h (by omega)
theorem nodup_same:∀ {a b:List Nat},a.Nodup→b.Nodup→(∀ v,v∈a↔v∈b)→a.length=b.length
 | [],b,_,_,h=>by
  cases b with
  | nil=>rfl
  | cons x b=>exact absurd ((h x).2 (by simp)) (by simp)
 | x :: a,b,ha,hb,h=>by
  have hx:x∈b:=(h x).1 (by simp)
  have ha':=List.nodup_cons.1 ha
  have h1:=nodup_same ha'.2 (hb.erase x) (fun v=>by
   rw [hb.mem_erase_iff]
   constructor
   ·intro hv
    exact ⟨fun e=>ha'.1 (e ▸ hv),(h v).1 (by simp [hv])⟩
   ·rintro ⟨hne,hv⟩
    rcases List.mem_cons.1 ((h v).2 hv) with e | hv
    ·exact absurd e hne
    ·exact hv)
  rw [List.length_erase_of_mem hx] at h1
  have:0 < b.length:=List.length_pos_of_mem hx
  simp only [List.length_cons]
  omega
theorem order_len {l:List Bx} (h:Low l) (h0:0 < l.length):(orderedL l).length=(reachedL l).length :=
 nodup_same (order_nodup h0 (succ_lt h)) (pair_nodup (reached_up l)) fun v=>(order_mem h0 (succ_lt h) v).trans (reached_mem h h0 v).symm
end Go.Proofs.YtpejpnffcepdlaaGreatDoor.FwP
namespace Go.Proofs.YtpejpnffcepdlaaGreatDoor.FdM
open ShM FwM FwC FwP

section
variable {t:Nat→List Nat}
def Rules (t:Nat→List Nat) (a b:Nat):Prop:=FwM.Comes t 0 b∧(a=b∨(FwM.Comes t 0 a∧¬ FwC.Way t a [0] b))
theorem way_reach {a b:Nat} (h:FwC.Way t a [0] b):FwM.Comes t 0 b:=by
 induction h with
 | start ha _=>rw [List.mem_singleton.1 ha];exact .here
 | step _ hc _ ih=>exact .step ih hc
theorem way_ne {a b:Nat} (h:FwC.Way t a [0] b):b≠a:=by
 cases h with
 | start _ h=>omega
 | step _ _ h=>omega
theorem Rules.reach {a b:Nat} (h:Rules t a b):FwM.Comes t 0 a:=by
 obtain ⟨h1,rfl | h2⟩:=h
 ·exact h1
 ·exact h2.1
theorem rules_self {b:Nat} (h:FwM.Comes t 0 b):Rules t b b:=⟨h,.inl rfl⟩
theorem not_rules {a b:Nat} (ha:FwM.Comes t 0 a) (hb:FwM.Comes t 0 b) (h:¬ Rules t a b):FwC.Way t a [0] b :=
 Classical.byContradiction fun hw=>h ⟨hb,.inr ⟨ha,hw⟩⟩
theorem rules_zero {b:Nat} (h:FwM.Comes t 0 b):Rules t 0 b:=by
 refine ⟨h,.inr ⟨.here,fun hw=>?_⟩⟩
 have:∀ {v},FwC.Way t (0:Nat) [0] v→False:=by
  intro v hv
  induction hv with
  | start ha hne=>rw [List.mem_singleton.1 ha] at hne;exact hne rfl
  | step _ _ _ ih=>exact ih
 exact this hw
theorem rules_first {a:Nat} (h:Rules t a 0):a=0:=by
 rcases h.2 with h | ⟨_,h⟩
 ·exact h
 ·refine Classical.byContradiction fun hne=>h (.start (by simp) ?_)
  omega
theorem Rules.trans {a b c:Nat} (h:Rules t a b) (k:Rules t b c):Rules t a c:=by
 obtain ⟨h1,rfl | h2⟩:=h
 ·exact k
 obtain ⟨k1,rfl | k2⟩:=k
 ·exact ⟨h1,.inr h2⟩
 refine ⟨k1,.inr ⟨h2.1,fun hw=>?_⟩⟩
 have key:∀ {v},FwC.Way t a [0] v→FwC.Way t b [0] v∨FwC.Way t a [0] b:=by
  intro v hv
  induction hv with
  | @start x hx hne =>
   by_cases e:x=b
   ·exact .inr (e ▸ .start hx hne)
   ·exact .inl (.start hx (by omega))
  | @step x y hx hy hne ih =>
   by_cases e:y=b
   ·exact .inr (e ▸ .step hx hy hne)
   ·rcases ih with ih | ih
    ·exact .inl (.step ih hy (by omega))
    ·exact .inr ih
 rcases key hw with h | h
 ·exact k2.2 h
 ·exact h2.2 h
theorem Rules.anti {a c:Nat} (h:Rules t a c) (k:Rules t c a):a=c:=by
 refine Classical.byContradiction fun hne=>?_
 have h2:=h.2.resolve_left hne
 have k2:=k.2.resolve_left fun e=>hne e.symm
 have key:∀ {v},FwM.Comes t 0 v→FwC.Way t c [0] a∨FwC.Way t a [0] c∨(FwC.Way t a [0] v∧FwC.Way t c [0] v):=by
  intro v hv
  induction hv with
  | here =>
   by_cases e1:(0:Nat)=a
   ·exact .inl (e1 ▸ .start (by simp) (by omega))
   by_cases e2:(0:Nat)=c
   ·exact .inr (.inl (e2 ▸ .start (by simp) (by omega)))
   ·exact .inr (.inr ⟨.start (by simp) (by omega),.start (by simp) (by omega)⟩)
  | @step x y _ hy ih =>
   rcases ih with ih | ih | ⟨i1,i2⟩
   ·exact .inl ih
   ·exact .inr (.inl ih)
   ·by_cases e1:y=a
    ·exact .inl (e1 ▸ .step i2 hy (by omega))
    by_cases e2:y=c
    ·exact .inr (.inl (e2 ▸ .step i1 hy (by omega)))
    ·exact .inr (.inr ⟨.step i1 hy (by omega),.step i2 hy (by omega)⟩)
 rcases key h2.1 with h | h | h
 ·exact k2.2 h
 ·exact h2.2 h
 ·exact way_ne h.1 rfl
theorem Rules.total {a b c:Nat} (h:Rules t a c) (k:Rules t b c):Rules t a b∨Rules t b a:=by
 refine Classical.byContradiction fun hno=>?_
 have n1:¬ Rules t a b:=fun e=>hno (.inl e)
 have n2:¬ Rules t b a:=fun e=>hno (.inr e)
 have w1:=not_rules h.reach k.reach n1
 have w2:=not_rules k.reach h.reach n2
 have hab:b≠a:=way_ne w1
 have key:∀ {v},FwM.Comes t 0 v→FwC.Way t a [0] v∨FwC.Way t b [0] v:=by
  intro v hv
  induction hv with
  | here =>
   by_cases e1:(0:Nat)=a
   ·exact .inr (.start (by simp) (by omega))
   ·exact .inl (.start (by simp) (by omega))
  | @step x y _ hy ih =>
   rcases ih with ih | ih
   ·by_cases e:y=a
    ·exact .inr (e ▸ w2)
    ·exact .inl (.step ih hy (by omega))
   ·by_cases e:y=b
    ·exact .inl (e ▸ w1)
    ·exact .inr (.step ih hy (by omega))
 have hac:a≠c:=fun e=>n2 (e ▸ k)
 have hbc:b≠c:=fun e=>n1 (e ▸ h)
 rcases key h.1 with h' | h'
 ·exact (h.2.resolve_left hac).2 h'
 ·exact (k.2.resolve_left hbc).2 h'
def NextTo (t:Nat→List Nat) (a b:Nat):Prop:=a≠b∧Rules t a b∧∀ c,c≠b→Rules t c b→Rules t c a
theorem rules_lt {n a b:Nat} (ht:∀ i,i < n→∀ j∈t i,j < n) (h0:0 < n) (h:Rules t a b):a < n:=h.reach.lt ht h0
open Classical in
theorem next_some {n b:Nat} (ht:∀ i,i < n→∀ j∈t i,j < n) (h0:0 < n) (hb:FwM.Comes t 0 b) (hne:b≠0):∃ a,NextTo t a b:=by
 have key:∀ (l:List Nat),(∃ c∈l,c≠b∧Rules t c b)→∃ a,(a≠b∧Rules t a b)∧∀ c∈l,c≠b→Rules t c b→Rules t c a:=by
  intro l
  induction l with
  | nil=>rintro ⟨c,hc,_⟩;cases hc
  | cons x l ih =>
   intro hx
   by_cases hl:∃ c∈l,c≠b∧Rules t c b
   ·obtain ⟨a,ha,hall⟩:=ih hl
    by_cases hxx:x≠b∧Rules t x b
    ·rcases ha.2.total hxx.2 with h | h
     ·refine ⟨x,hxx,fun c hc h1 h2=>?_⟩
      rcases List.mem_cons.1 hc with rfl | hc
      ·exact rules_self h2.reach
      ·exact (hall c hc h1 h2).trans h
     ·refine ⟨a,ha,fun c hc h1 h2=>?_⟩
      rcases List.mem_cons.1 hc with rfl | hc
      ·exact h
      ·exact hall c hc h1 h2
    ·refine ⟨a,ha,fun c hc h1 h2=>?_⟩
     rcases List.mem_cons.1 hc with rfl | hc
     ·exact absurd ⟨h1,h2⟩ hxx
     ·exact hall c hc h1 h2
   ·obtain ⟨c,hc,h⟩:=hx
    rcases List.mem_cons.1 hc with rfl | hc
    ·refine ⟨c,h,fun d hd h1 h2=>?_⟩
     rcases List.mem_cons.1 hd with rfl | hd
     ·exact rules_self h2.reach
     ·exact absurd ⟨d,hd,h1,h2⟩ hl
    ·exact absurd ⟨c,hc,h⟩ hl
 obtain ⟨a,ha,hall⟩:=key (List.range n) ⟨0,List.mem_range.2 h0,fun e=>hne e.symm,rules_zero hb⟩
 exact ⟨a,ha.1,ha.2,fun c h1 h2=>hall c (List.mem_range.2 (rules_lt ht h0 h2)) h1 h2⟩
theorem rules_next {a b x:Nat} (h:NextTo t a b):Rules t x b↔x=b∨Rules t x a:=by
 constructor
 ·intro hx
  by_cases e:x=b
  ·exact .inl e
  ·exact .inr (h.2.2 x e hx)
 ·rintro (rfl | hx)
  ·exact rules_self h.2.1.1
  ·exact hx.trans h.2.1
end

/-! of a function's blocks -/
def ruledL (l:List Bx) (a b:Nat):Bool:=decide (a=b) || (has (comeO (succ l) (-1) l.length [0]) a && !has (comeO (succ l) a l.length [0]) b)
theorem ruled_iff {l:List Bx} (h:Low l) (h0:0 < l.length) {a b:Nat} (hb:FwM.Comes (succ l) 0 b):ruledL l a b=true↔Rules (succ l) a b:=by
 have hf:∀ x∈[0],x < l.length:=fun x hx=>by rw [List.mem_singleton.1 hx];exact h0
 have e1:has (comeO (succ l) (-1) l.length [0]) a=true↔FwM.Comes (succ l) 0 a:=by
  rw [come_iff (succ_lt h) hf,way_comes (by decide)]
  simp
 have e2:=come_iff (but:=(a:Int)) (succ_lt h) hf b
 unfold ruledL Rules
 simp only [Bool.or_eq_true,decide_eq_true_eq,Bool.and_eq_true,Bool.not_eq_true',← Bool.not_eq_true]
 rw [e1,e2]
 constructor
 ·intro hh;exact ⟨hb,hh⟩
 ·intro hh;exact hh.2
def rulersN (l:List Bx) (b:Nat):Nat:=(List.range l.length).countP fun a=>ruledL l a b
theorem rulers_less {l:List Bx} (h:Low l) (h0:0 < l.length) {a b:Nat} (k:NextTo (succ l) a b):rulersN l a < rulersN l b:=by
 have hb:FwM.Comes (succ l) 0 b:=k.2.1.1
 have ha:FwM.Comes (succ l) 0 a:=k.2.1.reach
 have hbl:b < l.length:=hb.lt (succ_lt h) h0
 have key:∀ (r:List Nat),(∀ x∈r,ruledL l x a=true→ruledL l x b=true)→r.countP (fun x=>ruledL l x a)≤r.countP (fun x=>ruledL l x b)∧(b∈r→r.countP (fun x=>ruledL l x a) < r.countP (fun x=>ruledL l x b)):=by
  have hno:ruledL l b a=false:=by
   cases e:ruledL l b a with
   | false=>rfl
   | true=>exact absurd (((ruled_iff h h0 ha).1 e).anti k.2.1).symm k.1
  have hyes:ruledL l b b=true:=(ruled_iff h h0 hb).2 (rules_self hb)
  intro r
  induction r with
  | nil=>intro _;exact ⟨Nat.le_refl _,fun h=>by cases h⟩
  | cons x r ih =>
   intro hr
   obtain ⟨i1,i2⟩:=ih fun y hy=>hr y (by simp [hy])
   rw [List.countP_cons,List.countP_cons]
   have hx:=hr x (by simp)
   constructor
   ·cases e1:ruledL l x a with
    | false=>simp;omega
    | true=>rw [hx e1];simp;omega
   ·intro hm
    rcases List.mem_cons.1 hm with rfl | hm
    ·rw [hno,hyes];simp;omega
    ·have:=i2 hm
     cases e1:ruledL l x a with
     | false=>simp;omega
     | true=>rw [hx e1];simp;omega
 exact (key (List.range l.length) fun x _ hx=>(ruled_iff h h0 hb).2 (((ruled_iff h h0 ha).1 hx).trans k.2.1)).2 (List.mem_range.2 hbl)
def nextB (l:List Bx) (b a:Nat):Bool:=decide (a≠b) && (ruledL l a b && (List.range l.length).all fun c=>decide (c=b) || (!ruledL l c b || ruledL l c a))
def rulerL (l:List Bx) (b:Nat):Int:=match (List.range l.length).find? (nextB l b) with
 | some a=>a
 | none=>-1
theorem nextB_iff {l:List Bx} (h:Low l) (h0:0 < l.length) {a b:Nat} (hb:FwM.Comes (succ l) 0 b):nextB l b a=true↔NextTo (succ l) a b:=by
 unfold nextB NextTo
 simp only [Bool.and_eq_true,decide_eq_true_eq,List.all_eq_true,List.mem_range,Bool.or_eq_true,Bool.not_eq_true',← Bool.not_eq_true]
 rw [ruled_iff h h0 hb]
 constructor
 ·rintro ⟨h1,h2,h3⟩
  refine ⟨h1,h2,fun c hc hr=>?_⟩
  rcases h3 c (rules_lt (succ_lt h) h0 hr) with e | e | e
  ·exact absurd e hc
  ·exact absurd ((ruled_iff h h0 hb).2 hr) e
  ·exact (ruled_iff h h0 h2.reach).1 e
 ·rintro ⟨h1,h2,h3⟩
  refine ⟨h1,h2,fun c _=>?_⟩
  by_cases hc:c=b
  ·exact .inl hc
  ·by_cases hr:Rules (succ l) c b
   ·exact .inr (.inr ((ruled_iff h h0 h2.reach).2 (h3 c hc hr)))
   ·exact .inr (.inl fun e=>hr ((ruled_iff h h0 hb).1 e))
theorem ruler_zero {l:List Bx} (h:Low l) (h0:0 < l.length):rulerL l 0 = -1:=by
 unfold rulerL
 have:(List.range l.length).find? (nextB l 0)=none:=by
  rw [List.find?_eq_none]
  intro a _ hn
  have:=(nextB_iff h h0 .here).1 hn
  exact this.1 (rules_first this.2.1)
 rw [this]
theorem ruler_some {l:List Bx} (h:Low l) (h0:0 < l.length) {b:Nat} (hb:FwM.Comes (succ l) 0 b) (hne:b≠0):∃ a:Nat,rulerL l b=a∧NextTo (succ l) a b:=by
 obtain ⟨a,ha⟩:=next_some (succ_lt h) h0 hb hne
 unfold rulerL
 cases hf:(List.range l.length).find? (nextB l b) with
 | none =>
  have:=List.find?_eq_none.1 hf a (List.mem_range.2 (rules_lt (succ_lt h) h0 ha.2.1))
  exact absurd ((nextB_iff h h0 hb).2 ha) this
 | some c=>exact ⟨c,rfl,(nextB_iff h h0 hb).1 (List.find?_some hf)⟩
end Go.Proofs.YtpejpnffcepdlaaGreatDoor.FdM
namespace Go.Proofs.YtpejpnffcepdlaaGreatDoor.DmM
open ShM FwM FwC FwP FdM

def shN (l ps:List Nat):Nat:=ps.foldl (fun acc k=>if l.getD k 0=0 then acc else acc &&& l.getD k 0) 4294967295
def nwN (l ps:List Nat) (b:Nat):Nat:=shN l ps ||| 2 ^ b
theorem ones_bit (i:Nat):(4294967295:Nat).testBit i=decide (i < 32):=by
 have:=Nat.testBit_two_pow_sub_one 32 i
 simpa using this
theorem fold_bit (l:List Nat) (i:Nat):∀ (ps:List Nat) (acc:Nat),(ps.foldl (fun acc k=>if l.getD k 0=0 then acc else acc &&& l.getD k 0) acc).testBit i=true↔acc.testBit i=true∧∀ k∈ps,l.getD k 0≠0→(l.getD k 0).testBit i=true
 | [],acc=>by simp
 | k :: ps,acc=>by
  rw [List.foldl_cons,fold_bit l i ps]
  by_cases h:l.getD k 0=0
  ·rw [if_pos h]
   constructor
   ·rintro ⟨h1,h2⟩
    refine ⟨h1,fun x hx hne=>?_⟩
    rcases List.mem_cons.1 hx with rfl | hx
    ·exact absurd h hne
    ·exact h2 x hx hne
   ·rintro ⟨h1,h2⟩
    exact ⟨h1,fun x hx hne=>h2 x (by simp [hx]) hne⟩
  ·rw [if_neg h,Nat.testBit_and,Bool.and_eq_true]
   constructor
   ·rintro ⟨⟨h1,h3⟩,h2⟩
    refine ⟨h1,fun x hx hne=>?_⟩
    rcases List.mem_cons.1 hx with rfl | hx
    ·exact h3
    ·exact h2 x hx hne
   ·rintro ⟨h1,h2⟩
    exact ⟨⟨h1,h2 k (by simp) h⟩,fun x hx hne=>h2 x (by simp [hx]) hne⟩
theorem sh_bit {l ps:List Nat} {i:Nat} : (shN l ps).testBit i=true↔i < 32∧∀ k∈ps,l.getD k 0≠0→(l.getD k 0).testBit i=true:=by
 unfold shN
 rw [fold_bit,ones_bit,decide_eq_true_iff]
theorem nw_bit {l ps:List Nat} {b i:Nat} : (nwN l ps b).testBit i=true↔i=b∨(shN l ps).testBit i=true:=by
 unfold nwN
 rw [Nat.testBit_or,Bool.or_eq_true,Nat.testBit_two_pow,decide_eq_true_iff]
 constructor
 ·rintro (h | h)
  ·exact .inr h
  ·exact .inl h.symm
 ·rintro (h | h)
  ·exact .inr h.symm
  ·exact .inl h
theorem bits_lt {n k:Nat} (h:∀ i,n.testBit i=true→i < k):n < 2 ^ k :=
 Nat.lt_pow_two_of_testBit n fun i hi=>by
  cases e:n.testBit i with
  | false=>rfl
  | true=>have:=h i e;omega
theorem sh_lt (l ps:List Nat):shN l ps < 2 ^ 32:=bits_lt fun _ hi=>(sh_bit.1 hi).1
theorem nw_lt {l ps:List Nat} {b:Nat} (hb:b < 32):nwN l ps b < 2 ^ 32:=bits_lt fun i hi=>by
 rcases nw_bit.1 hi with h | h
 ·omega
 ·exact (sh_bit.1 h).1
theorem bits_le {n m:Nat} (h:∀ i,n.testBit i=true→m.testBit i=true):n≤m:=by
 have:n &&& m=n:=Nat.eq_of_testBit_eq fun i=>by
  rw [Nat.testBit_and]
  cases e:n.testBit i with
  | false=>rfl
  | true=>rw [h i e];rfl
 rw [← this]
 exact Nat.and_le_right
theorem bits_eq {n m:Nat} (h:∀ i,n.testBit i=true↔m.testBit i=true):n=m :=
 Nat.eq_of_testBit_eq fun i=>by rw [Bool.eq_iff_iff];exact h i
theorem bit_pos {n i:Nat} (h:n.testBit i=true):n≠0:=by
 intro e
 rw [e,Nat.zero_testBit] at h
 cases h
theorem getD_set {l:List Nat} {b x k:Nat} (hb:b < l.length):(l.set b x).getD k 0=if k=b then x else l.getD k 0:=by
 rw [List.getD_eq_getElem?_getD,List.getD_eq_getElem?_getD,List.getElem?_set]
 by_cases h:b=k
 ·subst h
  rw [if_pos rfl,if_pos hb,if_pos rfl];rfl
 ·rw [if_neg h,if_neg (fun e=>h e.symm)]
theorem sum_set:∀ {l:List Nat} {b x:Nat},b < l.length→(l.set b x).sum+l.getD b 0=l.sum+x
 | y :: l,0,x,_=>by simp;omega
 | y :: l,b+1,x,h=>by
  have:=sum_set (l:=l) (b:=b) (x:=x) (by simpa using h)
  simp only [List.set_cons_succ,List.sum_cons,List.getD_cons_succ]
  omega

structure Env (t:Nat→List Nat) (n:Nat) (ord:List Nat) (pr:Nat→List Nat):Prop where
 mem:∀ v,v∈ord↔FwM.Comes t 0 v
 prd:∀ b∈ord,∀ k,k∈pr b↔k < n∧b∈t k
 lt:∀ i,i < n→∀ j∈t i,j < n
 n0:0 < n
 n16:n≤16
structure Inv (t:Nat→List Nat) (ord:List Nat) (pr:Nat→List Nat) (l:List Nat):Prop where
 len:l.length=16
 zero:l.getD 0 0=1
 out:∀ b,b∉ord→l.getD b 0=0
 big:∀ b,l.getD b 0 < 2 ^ 32
 down:∀ b∈ord,b≠0→∀ i,(nwN l (pr b) b).testBit i=true→(l.getD b 0).testBit i=true
 rul:∀ a b,Rules t a b→(l.getD b 0).testBit a=true

section
variable {t:Nat→List Nat} {n:Nat} {ord:List Nat} {pr:Nat→List Nat}
theorem Env.mem_lt (h:Env t n ord pr) {b:Nat} (hb:b∈ord):b < n:=((h.mem b).1 hb).lt h.lt h.n0
theorem Env.zero (h:Env t n ord pr):0∈ord:=(h.mem 0).2 .here

def fillN (ord:List Nat):List Nat:=ord.foldl (fun l b=>l.set b 4294967295) (List.replicate 16 0)
theorem fill_len:∀ (ord l:List Nat),(ord.foldl (fun l b=>l.set b 4294967295) l).length=l.length
 | [],l=>rfl
 | b :: ord,l=>by rw [List.foldl_cons,fill_len];simp
theorem fill_getD (k:Nat):∀ (ord l:List Nat),(∀ b∈ord,b < l.length)→(ord.foldl (fun l b=>l.set b 4294967295) l).getD k 0=if k∈ord then 4294967295 else l.getD k 0
 | [],l,_=>by simp
 | b :: ord,l,h=>by
  rw [List.foldl_cons,fill_getD k ord _ (fun x hx=>by rw [List.length_set];exact h x (by simp [hx])),getD_set (h b (by simp))]
  by_cases h1:k∈ord
  ·rw [if_pos h1,if_pos (by simp [h1])]
  ·rw [if_neg h1]
   by_cases h2:k=b
   ·rw [if_pos h2,if_pos (by simp [h2])]
   ·rw [if_neg h2,if_neg (by simp [h1,h2])]
theorem fill_take (ord:List Nat) {k b:Nat} (h:ord[k]?=some b):fillN (ord.take (k+1))=(fillN (ord.take k)).set b 4294967295:=by
 unfold fillN
 rw [List.take_add_one,h,List.foldl_append]
 rfl
theorem inv_begin (h:Env t n ord pr):Inv t ord pr ((fillN ord).set 0 1):=by
 have hlen:(fillN ord).length=16:=by unfold fillN;rw [fill_len];simp
 have hz:∀ k,((fillN ord).set 0 1).getD k 0=if k=0 then 1 else if k∈ord then 4294967295 else 0:=by
  intro k
  rw [getD_set (by omega)]
  have:(fillN ord).getD k 0=if k∈ord then 4294967295 else 0:=by
   unfold fillN
   rw [fill_getD k ord _ (fun b hb=>by have:=h.mem_lt hb;have:=h.n16;simp;omega)]
   congr 1
   rw [List.getD_eq_getElem?_getD,List.getElem?_replicate]
   split<;>rfl
  rw [this]
 constructor
 ·rw [List.length_set];exact hlen
 ·rw [hz];rfl
 ·intro b hb
  rw [hz,if_neg (fun e:b=0=>hb (by rw [e];exact h.zero)),if_neg hb]
 ·intro b
  rw [hz]
  split
  ·decide
  split<;>decide
 ·intro b hb hne i hi
  rw [hz,if_neg hne,if_pos hb,ones_bit,decide_eq_true_iff]
  rcases nw_bit.1 hi with e | e
  ·have:=h.mem_lt hb;have:=h.n16;omega
  ·exact (sh_bit.1 e).1
 ·intro a b hr
  have ha:=rules_lt h.lt h.n0 hr
  have:=h.n16
  rw [hz]
  by_cases hb:b=0
  ·subst hb
   rw [if_pos rfl,rules_first hr]
   rfl
  ·rw [if_neg hb,if_pos ((h.mem b).2 hr.1),ones_bit,decide_eq_true_iff]
   omega
theorem Inv.pos {l:List Nat} (h:Inv t ord pr l) (he:Env t n ord pr) {b:Nat} (hb:b∈ord):(l.getD b 0).testBit b=true:=h.rul b b (rules_self ((he.mem b).1 hb))
theorem rules_pred {a b k:Nat} (hr:Rules t a b) (hne:a≠b) (hk:FwM.Comes t 0 k) (hb:b∈t k):Rules t a k:=by
 refine Classical.byContradiction fun hn=>?_
 exact (hr.2.resolve_left hne).2 (.step (not_rules hr.reach hk hn) hb (by omega))
theorem Inv.step {l:List Nat} (h:Inv t ord pr l) (he:Env t n ord pr) {b:Nat} (hb:b∈ord) (hne:b≠0):Inv t ord pr (l.set b (nwN l (pr b) b)):=by
 have hbn:=he.mem_lt hb
 have hbl:b < l.length:=by rw [h.len];have:=he.n16;omega
 have hz:∀ k,(l.set b (nwN l (pr b) b)).getD k 0=if k=b then nwN l (pr b) b else l.getD k 0:=fun k=>getD_set hbl
 have hle:∀ k i,((l.set b (nwN l (pr b) b)).getD k 0).testBit i=true→(l.getD k 0).testBit i=true:=by
  intro k i hi
  rw [hz] at hi
  by_cases e:k=b
  ·rw [if_pos e] at hi;rw [e];exact h.down b hb hne i hi
  ·rwa [if_neg e] at hi
 have hzero:∀ k,l.getD k 0≠0→(l.set b (nwN l (pr b) b)).getD k 0≠0:=by
  intro k hk
  rw [hz]
  by_cases e:k=b
  ·rw [if_pos e];exact bit_pos (i:=b) (nw_bit.2 (.inl rfl))
  ·rwa [if_neg e]
 have hnw:∀ c i,(nwN (l.set b (nwN l (pr b) b)) (pr c) c).testBit i=true→(nwN l (pr c) c).testBit i=true:=by
  intro c i hi
  rcases nw_bit.1 hi with e | e
  ·exact nw_bit.2 (.inl e)
  ·obtain ⟨e1,e2⟩:=sh_bit.1 e
   exact nw_bit.2 (.inr (sh_bit.2 ⟨e1,fun k hk hne=>hle k i (e2 k hk (hzero k hne))⟩))
 constructor
 ·rw [List.length_set];exact h.len
 ·rw [hz,if_neg (fun e=>hne e.symm)];exact h.zero
 ·intro c hc
  rw [hz,if_neg (fun e:c=b=>hc (by rw [e];exact hb))];exact h.out c hc
 ·intro c
  rw [hz]
  split
  ·exact nw_lt (by have:=he.n16;omega)
  ·exact h.big c
 ·intro c hc hc0 i hi
  have h1:=hnw c i hi
  rw [hz]
  by_cases e:c=b
  ·rw [if_pos e,← e];exact h1
  ·rw [if_neg e];exact h.down c hc hc0 i h1
 ·intro a c hr
  rw [hz]
  by_cases e:c=b
  ·rw [if_pos e]
   subst e
   by_cases hac:a=c
   ·exact nw_bit.2 (.inl hac)
   ·refine nw_bit.2 (.inr (sh_bit.2 ⟨by have:=rules_lt he.lt he.n0 hr;have:=he.n16;omega,fun k hk hne=>?_⟩))
    have hko:k∈ord:=Classical.byContradiction fun hn=>hne (h.out k hn)
    exact h.rul a k (rules_pred hr hac ((he.mem k).1 hko) ((he.prd c hb k).1 hk).2)
  ·rw [if_neg e];exact h.rul a c hr
theorem Inv.less {l:List Nat} (h:Inv t ord pr l) (he:Env t n ord pr) {b:Nat} (hb:b∈ord) (hne:b≠0) (hnw:nwN l (pr b) b≠l.getD b 0):(l.set b (nwN l (pr b) b)).sum < l.sum:=by
 have hbl:b < l.length:=by rw [h.len];have:=he.n16;have:=he.mem_lt hb;omega
 have h1:=sum_set (x:=nwN l (pr b) b) hbl
 have h2:=bits_le (h.down b hb hne)
 omega
theorem comes_way {a:Nat} {v:Nat} (h:FwM.Comes t 0 v):FwM.Comes t 0 a∨FwC.Way t a [0] v:=by
 induction h with
 | here =>
  by_cases e:(0:Nat)=a
  ·exact .inl (e ▸ .here)
  ·exact .inr (.start (by simp) (by omega))
 | @step x y hx hy ih =>
  rcases ih with ih | ih
  ·exact .inl ih
  ·by_cases e:y=a
   ·exact .inl (e ▸ .step hx hy)
   ·exact .inr (.step ih hy (by omega))
def Still (ord:List Nat) (pr:Nat→List Nat) (l:List Nat):Prop:=∀ b∈ord,b≠0→nwN l (pr b) b=l.getD b 0
theorem Inv.bits {l:List Nat} (h:Inv t ord pr l) (he:Env t n ord pr) (hs:Still ord pr l) {a b:Nat} (hb:b∈ord):(l.getD b 0).testBit a=true↔Rules t a b:=by
 refine ⟨fun hbit=>?_,h.rul a b⟩
 have key:∀ {v},FwC.Way t a [0] v→(l.getD v 0).testBit a=true→False:=by
  intro v hv
  induction hv with
  | start hx hne =>
   intro hbit
   rw [List.mem_singleton.1 hx] at hbit hne
   rw [h.zero] at hbit
   have:a=0:=by
    rcases Nat.eq_zero_or_pos a with e | e
    ·exact e
    ·rw [show (1:Nat)=2 ^ 0 from rfl,Nat.testBit_two_pow,decide_eq_true_iff] at hbit
     omega
   omega
  | @step x y hx hy hne ih =>
   intro hbit
   have hxc:=way_reach hx
   have hyc:FwM.Comes t 0 y:=.step hxc hy
   have hxo:=(he.mem x).2 hxc
   have hyo:=(he.mem y).2 hyc
   by_cases e:y=0
   ·rw [e,h.zero] at hbit
    have:a=0:=by
     rcases Nat.eq_zero_or_pos a with e | e
     ·exact e
     ·rw [show (1:Nat)=2 ^ 0 from rfl,Nat.testBit_two_pow,decide_eq_true_iff] at hbit
      omega
    omega
   ·rw [← hs y hyo e] at hbit
    rcases nw_bit.1 hbit with e2 | e2
    ·omega
    ·exact ih ((sh_bit.1 e2).2 x ((he.prd y hyo x).2 ⟨he.mem_lt hxo,hy⟩) (bit_pos (h.pos he hxo)))
 have hbc:=(he.mem b).1 hb
 refine ⟨hbc,?_⟩
 by_cases e:a=b
 ·exact .inl e
 ·rcases comes_way (a:=a) hbc with hc | hw
  ·exact .inr ⟨hc,fun hw=>key hw hbit⟩
  ·exact absurd hbit (key hw)
def othN (l:List Nat) (b:Nat):Nat:=l.getD b 0 &&& (4294967295 - 2 ^ b)
theorem oth_bit {l:List Nat} {b:Nat} (hb:b < 32) {i:Nat} : (othN l b).testBit i=true↔(l.getD b 0).testBit i=true∧i < 32∧i≠b:=by
 have e:4294967295 - 2 ^ b=2 ^ 32 - (2 ^ b+1):=by omega
 have hlt:2 ^ b < 2 ^ 32:=Nat.pow_lt_pow_right (by omega) hb
 unfold othN
 rw [Nat.testBit_and,e,Nat.testBit_two_pow_sub_succ hlt,Nat.testBit_two_pow,Bool.and_eq_true,Bool.and_eq_true,decide_eq_true_iff,Bool.not_eq_true',decide_eq_false_iff_not]
 constructor
 ·rintro ⟨h1,h2,h3⟩;exact ⟨h1,h2,fun e=>h3 e.symm⟩
 ·rintro ⟨h1,h2,h3⟩;exact ⟨h1,h2,fun e=>h3 e.symm⟩
def idxI (l:List Nat) (x:Nat) (r:Int):Prop:=(∃ i:Nat,i < l.length∧l.getD i 0=x∧r=i)∨(r = -1∧∀ i,i < l.length→l.getD i 0≠x)
def NextIs (l:List Nat) (b:Nat) (r:Int):Prop:=(othN l b=0∧r = -1)∨(othN l b≠0∧idxI l (othN l b) r)
theorem Inv.next_zero {l:List Nat} (h:Inv t ord pr l) {r:Int} (hr:NextIs l 0 r):r = -1:=by
 have e:othN l 0=0:=by unfold othN;rw [h.zero];rfl
 rcases hr with ⟨_,hr⟩ | ⟨hr,_⟩
 ·exact hr
 ·exact absurd e hr
theorem Inv.next_out {l:List Nat} (h:Inv t ord pr l) {b:Nat} (hb:b∉ord) {r:Int} (hr:NextIs l b r):r = -1:=by
 have e:othN l b=0:=by unfold othN;rw [h.out b hb];exact Nat.zero_and _
 rcases hr with ⟨_,hr⟩ | ⟨hr,_⟩
 ·exact hr
 ·exact absurd e hr
theorem Inv.next_is {l:List Nat} (h:Inv t ord pr l) (he:Env t n ord pr) (hs:Still ord pr l) {a b:Nat} (hn:NextTo t a b) {r:Int} (hr:NextIs l b r):r=a:=by
 have hb:b∈ord:=(he.mem b).2 hn.2.1.1
 have ha:a∈ord:=(he.mem a).2 hn.2.1.reach
 have hb16:b < 32:=by have:=he.mem_lt hb;have:=he.n16;omega
 have e:othN l b=l.getD a 0:=bits_eq fun i=>by
  rw [oth_bit hb16,h.bits he hs hb,h.bits he hs ha]
  constructor
  ·rintro ⟨h1,_,h3⟩;exact hn.2.2 i h3 h1
  ·intro h1
   refine ⟨h1.trans hn.2.1,?_,?_⟩
   ·have:=rules_lt he.lt he.n0 h1;have:=he.n16;omega
   ·rintro rfl;exact hn.1 (hn.2.1.anti h1)
 have h0:othN l b≠0:=by rw [e];exact bit_pos (h.pos he ha)
 rcases hr with ⟨hr,_⟩ | ⟨_,hr⟩
 ·exact absurd hr h0
 rcases hr with ⟨c,hc,hce,rfl⟩ | ⟨_,hno⟩
 ·have hco:c∈ord:=Classical.byContradiction fun hn=>h0 (by rw [← hce];exact h.out c hn)
  rw [e] at hce
  have h1:Rules t c a:=by rw [← h.bits he hs ha,← hce];exact h.pos he hco
  have h2:Rules t a c:=by rw [← h.bits he hs hco,hce];exact h.pos he ha
  rw [h1.anti h2]
 ·exact absurd e.symm (hno a (by rw [h.len];have:=he.mem_lt ha;have:=he.n16;omega))
end
theorem has_bit (x a:Nat):decide (x >>> a &&& 1=1)=x.testBit a:=by
 rw [Bool.eq_iff_iff,decide_eq_true_iff,Nat.testBit,Nat.and_comm,bne_iff_ne]
 have:=Nat.and_two_pow_sub_one_eq_mod (x >>> a) 1
 rw [Nat.and_comm] at this
 have h2:1 &&& x >>> a=x >>> a % 2:=this
 rw [h2]
 omega
end Go.Proofs.YtpejpnffcepdlaaGreatDoor.DmM
namespace Go.Proofs.YtpejpnffcepdlaaGreatDoor.DmN
open Go.RowKit Go.Lib SetP IntO TyM TyP TyB TyC ShM ShP ShA ShB ShC ShE Aft DmM DmX

theorem below1_calls (x m:Int) (b:Nat) (w:World) (hc:w.cell? ⟨b,0,none⟩=some (.int .i64 m)) :
  Calls Tryz.prog 94 #[.int .i64 x,.pointer (some ⟨b,0,none⟩)] w (BoolR (!decide (0≤x∧x < m)) w):=by
 by_cases h0:x < 0
 ·have hd:decide (0≤x∧x < m)=false:=by simp;omega
  rw [hd]
  go_enter Tryz.func94,Tryz.ntmps94
  go_wp2
  go_ret
  exact ⟨rfl,Below.refl _ _⟩
 ·by_cases h1:m≤x
  ·have hd:decide (0≤x∧x < m)=false:=by simp;omega
   rw [hd]
   go_enter Tryz.func94,Tryz.ntmps94
   go_wp2
   go_ret
   exact ⟨rfl,Below.refl _ _⟩
  ·have hd:decide (0≤x∧x < m)=true:=by simp;omega
   rw [hd]
   go_enter Tryz.func94,Tryz.ntmps94
   go_wp2
   go_ret
   exact ⟨rfl,Below.refl _ _⟩
theorem below_calls (m:Int) (v:Value) (l:List Int) (w:World) (hl:IntsAt w v l) :
  Calls Tryz.prog 54 #[.int .i64 m,v] w (BoolR (lowB m l) w):=by
 have hb0:Below w.heap.size w (w.alloc (.cells #[.int .i64 m] 3)):=alloc_below _ _
 have HC:=hid (contains_calls 94 (enters_of Tryz.func94 (by kernel_rfl) rfl) w.heap.size (fun x=>!decide (0≤x∧x < m)) v l _ (hl.below hb0)
  (fun x _ wx hbx=>below1_calls x m w.heap.size wx ((hbx.cell (p:=⟨w.heap.size,0,none⟩) (by simp)).trans (by simp))))
 rw [← low_not]
 generalize l.any (fun x=>!decide (0≤x∧x < m))=b at *
 clear hl
 cases b <;>
 ·go_enter Tryz.func54,Tryz.ntmps54
  go_wp2_with fail
  refine HC.out.mono ?_
  rintro e w1 ⟨rfl,hb1⟩
  have hbe:=hb0.trans (hb1.mono hb0.size)
  clear hb1
  go_wp2
  go_ret
  exact ⟨rfl,hbe⟩

def cx (b a:Int):Value:=.complex .f64 (fl b) (fl a)
theorem place_calls (b a:Int) (w:World):Calls Tryz.prog 57 #[.int .i64 b,.int .i64 a] w fun e w'=>e=.returned (cx b a)∧w'=w:=by
 have h1:∀ n:Int,FloatKind.f64.nearest n=fl n:=fun _=>rfl
 have h2:∀ n:Int,floatOfInt .f64 n=fl n:=fun _=>rfl
 go_enter Tryz.func57,Tryz.ntmps57
 go_wp2
 go_ret
 exact ⟨rfl,rfl⟩
theorem bit_int {x:Nat} (a:Nat) (hx:x < 4294967296):(bits .and .u32 ((x:Int) / 2 ^ a) 1 == 1)=x.testBit a:=by
 have e:(x:Int) / 2 ^ a=((x / 2 ^ a:Nat):Int):=by rw [Int.natCast_ediv,Int.natCast_pow];rfl
 have h:=u32_and_nat (x / 2 ^ a) 1 (Nat.lt_of_le_of_lt (Nat.div_le_self _ _) hx) (by decide)
 rw [e,show (1:Int)=((1:Nat):Int) from rfl,h,← has_bit,Nat.shiftRight_eq_div_pow,Bool.eq_iff_iff,decide_eq_true_iff,beq_iff_eq]
 omega
theorem has_calls (x a:Nat) (hx:x < 4294967296) (ha:a < 32) (w:World):Calls Tryz.prog 97 #[.int .u32 x,.int .i64 a] w fun e w'=>e=.returned (.bool (x.testBit a))∧w'=w:=by
 go_enter Tryz.func97,Tryz.ntmps97
 go_wp2
 rw [bit_int a hx]
 go_ret
 exact ⟨rfl,rfl⟩

def uV (l:List Nat):List Value:=l.map fun (n:Nat)=>Value.int .u32 (n:Int)
theorem uV_length (l:List Nat):(uV l).length=l.length:=by unfold uV;rw [List.length_map]
theorem uV_get {l:List Nat} {i:Nat} (h:i < l.length):(uV l)[i]?=some (.int .u32 (l.getD i 0:Nat)):=by
 unfold uV
 rw [List.getElem?_map,List.getD_eq_getElem?_getD,List.getElem?_eq_getElem h]
 rfl
def rulV (l:List Nat):Value:=.agg (uV l).toArray
theorem underF:Tryz.prog.underlying 156=some (.float .f64):=by kernel_rfl
theorem back_run {b:Int} (b0 : -1≤b) (b1:b < 17) (w:World):(convert 156 3 (.float .f64 (fl b))).run Tryz.prog w=.ok (.int .i64 b) w :=
 run_convert_float_int w 156 3 .f64 .i64 (fl b) b (by rw [underF];rfl) Tryz.underlying3 (back_real b0 b1)
theorem set_calls (l:List Nat) (mb mi hb hi:Int) (hl:l.length=16) (hbig:∀ b,l.getD b 0 < 4294967296) (m0 : -1≤mb) (m1:mb < 16) (hmi:mb≠-1→0≤mi∧mi < 132) (b0:0≤hb) (b1:hb < 16) (j0:0≤hi) (j1:hi < 132) (w:World) :
  Calls Tryz.prog 56 #[rulV l,cx mb mi,cx hb hi] w (BoolR (if mb = -1 then true else if mb=hb then decide (mi < hi) else (l.getD hb.toNat 0).testBit mb.toNat) w):=by
 unfold rulV cx
 have e1:=is_param m0 (by omega)
 have e2:=is_same m0 (by omega:mb < 17) (by omega : -1≤hb) (by omega)
 by_cases h1:mb = -1
 ·rw [if_pos h1]
  rw [decide_eq_true h1] at e1
  clear e2
  generalize (uV l).toArray=cs at *
  go_enter Tryz.func56,Tryz.ntmps56
  go_wp2
  go_ret
  exact ⟨rfl,alloc_below _ _⟩
 rw [if_neg h1]
 rw [decide_eq_false h1] at e1
 have e3:=is_ahead (hmi h1).1 (hmi h1).2 j0 j1
 clear hmi
 by_cases h2:mb=hb
 ·rw [if_pos h2]
  rw [decide_eq_true h2] at e2
  generalize (uV l).toArray=cs at *
  clear h1 h2
  generalize decide (mi < hi)=r at *
  go_enter Tryz.func56,Tryz.ntmps56
  go_wp2
  go_ret
  exact ⟨rfl,alloc_below _ _⟩
 rw [if_neg h2]
 rw [decide_eq_false h2] at e2
 have c1:=back_run m0 (by omega:mb < 17)
 have c2:=back_run (by omega : -1≤hb) (by omega:hb < 17)
 obtain ⟨m,hm⟩:∃ m:Nat,mb=m:=⟨mb.toNat,by omega⟩
 obtain ⟨h,hh⟩:∃ h:Nat,hb=h:=⟨hb.toNat,by omega⟩
 subst hm;subst hh
 rw [Int.toNat_natCast,Int.toNat_natCast]
 have HC:=hid (has_calls (l.getD h 0) m (hbig h) (by omega))
 have hh16:(h:Int) < 16:=by omega
 have hcs:(uV l).toArray[h]?=some (.int .u32 (l.getD h 0:Nat)):=by rw [List.getElem?_toArray];exact uV_get (by omega)
 have HB:=hid (alloc_below w (.cells (uV l).toArray 111))
 have l0:=later_cells (alloc_new w (.cells (uV l).toArray 111)) h _ hcs
 have h0:=Aft.refl (w.alloc (.cells (uV l).toArray 111))
 clear e3 h1 h2 hcs
 generalize (uV l).toArray=cs at *
 generalize l.getD h 0=x at *
 go_enter Tryz.func56,Tryz.ntmps56
 go_wp2_with fail
 refine (HC.out _).mono ?_
 rintro e w1 ⟨rfl,rfl⟩
 go_wp2
 go_ret
 exact ⟨rfl,HB.out⟩
end Go.Proofs.YtpejpnffcepdlaaGreatDoor.DmN
namespace Go.Proofs.YtpejpnffcepdlaaGreatDoor.LvM
open ShM FwP FxL

section
variable (l:List Bx) (own:Nat→Nat→Nat) (r:Nat)
def insAt (b:Nat):List Ix:=(l[b]?.getD default).ins
def readsI (x:Ix):Bool:=decide (x.op≠22) && decide ((r:Int)∈usesOf x)
def byPhi (b j:Nat):Bool:=(insAt l j).any fun x=>decide (x.op=22) && decide (((b:Int),(r:Int))∈x.frm.zip x.args)
inductive Lv:Nat→Nat→Prop
 | read {b k:Nat} {x:Ix} : (insAt l b)[k]?=some x→readsI r x=true→Lv b k
 | next {b k:Nat} : k < (insAt l b).length→own b k≠r→Lv b (k+1)→Lv b k
 | ends {b:Nat} : (r:Int)∈endsOf (endAt l b)→Lv b (insAt l b).length
 | fall {b:Nat} : Lv b ((insAt l b).length+1)→Lv b (insAt l b).length
 | go {b j:Nat} : j∈succ l b→Lv j 0→Lv b ((insAt l b).length+1)
 | phi {b j:Nat} : j∈succ l b→byPhi l r b j=true→Lv b ((insAt l b).length+1)
end
variable {l:List Bx} {own:Nat→Nat→Nat} {r:Nat}
/-! within a block -/
def within (own:Nat→Nat→Nat) (r b:Nat) (en:Ex):Nat→List Ix→Option Bool
 | _,[]=>if (r:Int)∈endsOf en then some true else none
 | k,x :: xs=>if readsI r x=true then some true else if own b k=r then some false else within own r b en (k+1) xs
/-! the rounds: of each block whether it lives at its beginning -/
def outB (l:List Bx) (r:Nat) (X:Nat→Bool) (b:Nat):Bool:=(succ l b).any fun j=>X j || byPhi l r b j
def inB (l:List Bx) (own:Nat→Nat→Nat) (r:Nat) (X:Nat→Bool) (b:Nat):Bool :=
 decide (b < l.length) && (match within own r b (endAt l b) 0 (insAt l b) with
  | some t=>t
  | none=>outB l r X b)
end Go.Proofs.YtpejpnffcepdlaaGreatDoor.LvM
namespace Go.Proofs.YtpejpnffcepdlaaGreatDoor.PgB
open Go.RowKit Go.Lib RwO SetP IntO TyM TyP TyB ShM ShP ShB ShI

def ProgR (p:Px) (w:World) (e:Ending) (w' : World):Prop:=∃ v,e=.returned v∧PrAt w' v p∧Below w.heap.size w w'
theorem alloc_newn (w:World) (o:Obj) (n:Nat) (h:w.heap.size=n):(w.alloc o).heap[n]?=some o:=by subst h;exact alloc_new w o
theorem keepBlk {w w' : World} {b:Nat} {o:Obj} (hW:Below w.heap.size w w') (h:w.heap[b]?=some o):w'.heap[b]?=some o:=(hW.block b (Array.getElem?_eq_some_iff.1 h).1).trans h
theorem row_block {α:Type} {sz:Nat} {In:World→Nat→Nat→α→Prop} {W:World} {b n:Nat} {l:List α} (hb:b < W.heap.size) (hn:n=l.length) (hl:l.length≤100000) (hin:∀ i (h:i < l.length),In W b (0+i * sz) l[i]):RowAt sz In W (.slice (some ⟨b,0,none⟩) n n) l:=by
 subst hn
 exact ⟨some ⟨b,0,none⟩,l.length,rfl,by omega,fun _=>⟨b,0,rfl,hb,hin⟩,(fun h=>by cases h),Nat.le_refl _⟩
theorem cells_of {W:World} {b:Nat} {cs:Array Value} {ty:TypeId} (h:W.heap[b]?=some (.cells cs ty (0,0))) (i:Nat) (v:Value) (hv:cs[i]?=some v):W.cell? ⟨b,i,none⟩=some v:=by
 unfold World.cell?;rw [h];exact hv
theorem lt_of {W:World} {b:Nat} {o:Obj} (h:W.heap[b]?=some o):b < W.heap.size:=(Array.getElem?_eq_some_iff.1 h).1
theorem ints_blk {W:World} {b n:Nat} {l:List Int} {cs:Array Value} {ty:TypeId} (h:W.heap[b]?=some (.cells cs ty (0,0))) (hc:cs=(intVals l).toArray) (hn:n=l.length) (hl:l.length≤1000:=by decide):IntsAt W (.slice (some ⟨b,0,none⟩) n n) l:=by
 subst hc
 subst hn
 exact ⟨some ⟨b,0,none⟩,l.length,rfl,by omega,fun _=>⟨b,0,rfl,lt_of h,fun i hi=>cells_of h _ _ (by simp [intVals,hi])⟩,(fun h=>by cases h),Nat.le_refl _⟩
theorem tys_blk {W:World} {b n:Nat} {l:List Ty} (hb:b < W.heap.size) (hn:n=l.length) (hl:l.length≤100000) (hin:∀ i (h:i < l.length),TyIn W b (0+i * 4) l[i]):TysAt W (.slice (some ⟨b,0,none⟩) n n) l:=by
 subst hn
 exact ⟨some ⟨b,0,none⟩,l.length,rfl,by omega,fun _=>⟨b,0,rfl,hb,hin⟩,(fun h=>by cases h),Nat.le_refl _⟩
def Agree (B:Nat) (w X:World):Prop:=w.heap.size≤X.heap.size∧∀ b,B≤b→b < w.heap.size→X.heap[b]?=w.heap[b]?
theorem Agree.refl (B:Nat) (w:World):Agree B w w:=⟨Nat.le_refl _,fun _ _ _=>rfl⟩
theorem Agree.base {B C:Nat} {w X:World} (h:Agree B w X) (hc:B≤C):Agree C w X:=⟨h.1,fun b hb hl=>h.2 b (Nat.le_trans hc hb) hl⟩
theorem Agree.below {B:Nat} {w w1 X:World} (h:Agree B w1 X) (hb:Below w.heap.size w w1):Agree B w X:=⟨Nat.le_trans hb.size h.1,fun b hB hl=>(h.2 b hB (Nat.lt_of_lt_of_le hl hb.size)).trans (hb.block b hl)⟩
theorem Agree.set {B b i:Nat} {w:World} {u:Value} (hb:b < B):Agree B w (w.setCell ⟨b,i,none⟩ u):=⟨by simp [World.setCell],fun c hc _=>Below.heap_setCell _ _ _ c (by show c≠b;omega)⟩
theorem Agree.trans {B:Nat} {w w1 w2:World} (h:Agree B w w1) (k:Agree B w1 w2):Agree B w w2:=⟨Nat.le_trans h.1 k.1,fun b hb hl=>(k.2 b hb (Nat.lt_of_lt_of_le hl h.1)).trans (h.2 b hb hl)⟩
theorem Agree.blk {B b:Nat} {w X:World} {o:Obj} (h:Agree B w X) (hb:B≤b) (hk:w.heap[b]?=some o):X.heap[b]?=some o:=(h.2 b hb (Array.getElem?_eq_some_iff.1 hk).1).trans hk
def ProgS (p:Px) (w:World) (e:Ending) (w' : World):Prop:=∃ v,e=.returned v∧(∀ Z,Agree w.heap.size w' Z→PrAt Z v p)∧Below w.heap.size w w'
theorem ProgS.r {p:Px} {w:World} {e:Ending} {w' : World} (h:ProgS p w e w'):ProgR p w e w':=by
 obtain ⟨v,h1,h2,h3⟩:=h
 exact ⟨v,h1,h2 w' (Agree.refl _ _),h3⟩
end Go.Proofs.YtpejpnffcepdlaaGreatDoor.PgB
namespace Go.Proofs.YtpejpnffcepdlaaGreatDoor.ShI
open Go.RowKit Go.Lib SetP IntO TyM TyP TyB TyC ShM ShP ShA ShB ShC ShE ShQ ShF ShG ShH

theorem find_calls (p:Px) (f:Int) (v:Value) (w:World) (hp:PrAt w v p) (htab:Tab w) (hs:Small p) (hok:POk p) :
  Calls Tryz.prog 40 #[v,.int .i64 f] w (NumR (findP p f) w):=by
 have hp0:=hp
 obtain ⟨vt,vf,rfl,ht,hf⟩:=hp
 have hb0:=alloc_below w (.cells #[vt,vf] 27)
 have HC:=hid (check_calls p _ _ (hp0.below hb0) (htab.on hb0) hs hok)
 obtain ⟨ta,tc,rfl⟩:=ht.slice
 obtain ⟨fa,fc,rfl,hfl⟩:=hf.slice
 have HD:Hid (findP p f=if chkP p≠0 then chkP p else if 0≤f∧f < p.funcs.length then 0 else 2):=rfl
 clear ht hf htab hs hok hp0
 generalize findP p f=ans at *
 generalize chkP p=ct at *
 generalize p.types.length=n1 at *
 generalize p.funcs.length=n2 at *
 by_cases hc:ct=0
 rotate_left
 ·rw [if_pos hc] at HD
  have e0:(ct != 0)=true:=by simpa using hc
  clear hc
  go_enter Tryz.func40,Tryz.ntmps40
  go_wp2_with fail
  refine HC.out.mono ?_
  rintro e w1 ⟨rfl,hb1⟩
  have hbe:=hb0.trans (hb1.mono hb0.size)
  clear HC hb1
  go_wp2
  go_ret
  exact ⟨by rw [HD.out];rfl,hbe⟩
 subst hc
 rw [if_neg (fun h=>h rfl)] at HD
 have HB:=hid (fun (wx:World)=>ShE.below_calls n2 (.slice (some ⟨wx.heap.size,0,none⟩) 1 1) [f] (wx.alloc (.cells #[.int .i64 f] 3)) (ints_one (cell_new _ _ _ _ rfl) (size_new _ _ _ rfl)))
 rw [low_one] at HB
 cases hd:decide (0≤f∧f < (n2:Int)) with
 | false =>
  rw [hd] at HB
  rw [if_neg (of_decide_eq_false hd)] at HD
  clear hd
  go_enter Tryz.func40,Tryz.ntmps40
  go_wp2_with fail
  refine HC.out.mono ?_
  rintro e w1 ⟨rfl,hb1⟩
  have hbe:=hb0.trans (hb1.mono hb0.size)
  obtain ⟨f1,_,s1,_⟩:=copyF (alloc_new _ _) hb1 (by simp only [World.size_alloc];omega)
  have p1:=f1 1 (by simp)
  simp only [List.getElem_toArray,List.getElem_cons_succ,List.getElem_cons_zero] at p1
  have HB1:=hid (HB.out w1)
  clear HC hb1 HB f1
  go_wp2_with fail
  refine HB1.out.mono ?_
  rintro e w2 ⟨rfl,hb2⟩
  have hbe2:=(hbe.alloc hbe.size (.cells #[.int .i64 f] 3)).trans (hb2.mono (hbe.alloc hbe.size _).size)
  clear HB1 hb2
  go_wp2
  go_ret
  exact ⟨by rw [HD.out];rfl,hbe2⟩
 | true =>
  rw [hd] at HB
  rw [if_pos (of_decide_eq_true hd)] at HD
  clear hd
  go_enter Tryz.func40,Tryz.ntmps40
  go_wp2_with fail
  refine HC.out.mono ?_
  rintro e w1 ⟨rfl,hb1⟩
  have hbe:=hb0.trans (hb1.mono hb0.size)
  obtain ⟨f1,_,s1,_⟩:=copyF (alloc_new _ _) hb1 (by simp only [World.size_alloc];omega)
  have p1:=f1 1 (by simp)
  simp only [List.getElem_toArray,List.getElem_cons_succ,List.getElem_cons_zero] at p1
  have HB1:=hid (HB.out w1)
  clear HC hb1 HB f1
  go_wp2_with fail
  refine HB1.out.mono ?_
  rintro e w2 ⟨rfl,hb2⟩
  have hbe2:=(hbe.alloc hbe.size (.cells #[.int .i64 f] 3)).trans (hb2.mono (hbe.alloc hbe.size _).size)
  clear HB1 hb2
  go_wp2
  go_ret
  exact ⟨by rw [HD.out];rfl,hbe2⟩
end Go.Proofs.YtpejpnffcepdlaaGreatDoor.ShI
namespace Go.Proofs.YtpejpnffcepdlaaGreatDoor.ShJ
open Go.RowKit Go.Lib SetP IntO TyM TyP TyB TyC ShM ShP ShA ShB ShC ShE ShQ ShF ShG ShH ShI

theorem find_zero {p:Px} {f:Int} (h:findP p f=0):chkP p=0∧0≤f∧f < p.funcs.length:=by
 unfold findP at h
 by_cases h1:chkP p=0
 ·rw [if_neg (fun e=>e h1)] at h
  by_cases h2:0≤f∧f < p.funcs.length
  ·exact ⟨h1,h2⟩
  ·rw [if_neg h2] at h;omega
 ·rw [if_pos h1] at h;exact absurd h h1
theorem chk_zero {p:Px} (h:chkP p=0):chkT p.types=0∧1≤p.funcs.length∧p.funcs.length≤8∧∀ f∈p.funcs,mayF p.types p.funcs.length f=true:=by
 unfold chkP at h
 by_cases h1:chkT p.types=0
 ·rw [if_neg (fun e=>e h1)] at h
  by_cases h2:p.funcs.length < 1∨8 < p.funcs.length
  ·rw [if_pos h2] at h;omega
  ·rw [if_neg h2] at h
   by_cases h3:p.funcs.all (mayF p.types p.funcs.length)=true
   ·exact ⟨h1,by omega,by omega,List.all_eq_true.1 h3⟩
   ·rw [if_neg h3] at h;omega
 ·rw [if_pos h1] at h;exact absurd h h1
theorem may_zero {t:List Ty} {nf:Nat} {f:Fx} (h:mayF t nf f=true):(0≤f.sig∧f.sig < t.length)∧kindAt t f.sig=3∧1≤f.blocks.length∧f.blocks.length≤16∧manyB f.blocks≤128:=by
 unfold mayF at h
 by_cases h1:0≤f.sig∧f.sig < t.length
 ·rw [if_neg (fun e=>e h1)] at h
  by_cases h2:kindAt t f.sig=3
  ·rw [if_neg (fun e=>e h2)] at h
   by_cases h3:f.blocks.length < 1∨16 < f.blocks.length∨128 < manyB f.blocks
   ·rw [if_pos h3] at h;cases h
   ·exact ⟨h1,h2,by omega,by omega,by omega⟩
  ·rw [if_pos h2] at h;cases h
 ·rw [if_pos h1] at h;cases h
structure Has1 (p:Px) (f:Int) (k:Nat) (x:Fx):Prop where
 eq:f=k
 lt:k < p.funcs.length
 at_:p.funcs[k]?=some x
 sig0:0≤x.sig
 sig1:x.sig < p.types.length
 blocks1:1≤x.blocks.length
 blocks:x.blocks.length≤16
 many:manyB x.blocks≤128
theorem has1 {p:Px} {f:Int} (h:findP p f=0):∃ k x,Has1 p f k x:=by
 obtain ⟨h1,h2,h3⟩:=find_zero h
 obtain ⟨_,_,_,h4⟩:=chk_zero h1
 have hk:f.toNat < p.funcs.length:=by omega
 obtain ⟨⟨a,b⟩,_,c,d,e⟩:=may_zero (h4 _ (List.getElem_mem hk))
 exact ⟨f.toNat,p.funcs[f.toNat],by omega,hk,List.getElem?_eq_getElem hk,a,b,c,d,e⟩
def cntP (p:Px) (f:Int):Nat:=match p.funcs[f.toNat]? with
 | some x=>parOf p.types x.sig+manyB x.blocks
 | none=>0
theorem cnt_at {p:Px} {f:Int} {k:Nat} {x:Fx} (h:Has1 p f k x):cntP p f=parOf p.types x.sig+manyB x.blocks:=by
 unfold cntP
 rw [h.eq,Int.toNat_natCast,h.at_]
theorem par_le {t:List Ty} {s:Int} (hp:∀ x∈t,x.parts.length≤20000) (h0:0≤s) (h1:s < t.length):parOf t s≤20000:=by
 have hk:s.toNat < t.length:=by omega
 have:=parOf_at hk
 rw [Int.toNat_of_nonneg h0] at this
 rw [this]
 exact hp _ (List.getElem_mem hk)
def TwoR (n m:Int) (w:World) (e:Ending) (w' : World):Prop:=e=.returned (.tuple #[.int .i64 n,.int .i64 m])∧Below w.heap.size w w'
def ThreeR (n m k:Int) (w:World) (e:Ending) (w' : World):Prop:=e=.returned (.tuple #[.int .i64 n,.int .i64 m,.int .i64 k])∧Below w.heap.size w w'
theorem fn_at {w:World} {vf:Value} {p:Px} {f:Int} {k:Nat} {x:Fx} (h:FnsAt w vf p.funcs) (h1:Has1 p f k x):∃ b off cap vb,vf=.slice (some ⟨b,off,none⟩) p.funcs.length cap∧b < w.heap.size∧w.cell? ⟨b,off+k * 2,none⟩=some (.int .i64 x.sig)∧w.cell? ⟨b,off+k * 2+1,none⟩=some vb∧BlksAt w vb x.blocks:=by
 obtain ⟨ao,cap,rfl,_⟩:=h.slice
 obtain ⟨b,off,rfl,hb,vb,c0,c1,hbl⟩:=h.at k h1.lt
 have:p.funcs[k]'h1.lt=x:=by
  have:=h1.at_
  rw [List.getElem?_eq_getElem h1.lt] at this
  exact Option.some.inj this
 rw [this] at c0 hbl
 exact ⟨b,off,cap,vb,rfl,hb,c0,c1,hbl⟩

end Go.Proofs.YtpejpnffcepdlaaGreatDoor.ShJ
namespace Go.Proofs.YtpejpnffcepdlaaGreatDoor.FwQ
open TyM ShM ShP ShE ShH ShI ShN ShJ FwM FwC FwP

def ints (l:List Nat):List Int:=l.map fun (n:Nat)=>(n:Int)
theorem ints_length (l:List Nat):(ints l).length=l.length:=by simp [ints]
theorem ints_append (s t:List Nat):ints (s++t)=ints s++ints t:=by simp [ints]
theorem ints_mem {l:List Nat} {n:Nat} : (n:Int)∈ints l↔n∈l:=by
 unfold ints
 rw [List.mem_map]
 constructor
 ·rintro ⟨m,hm,e⟩
  have:m=n:=by omega
  exact this ▸ hm
 ·intro h;exact ⟨n,h,rfl⟩
theorem nums_at {l:List Nat} {i:Nat} (h:i < l.length):(ints l)[i]'(by rw [ints_length];exact h)=(l[i]:Int):=by simp [ints]
theorem nums_get {l:List Nat} {i:Nat} : (ints l)[i]?=l[i]?.map fun (n:Nat)=>(n:Int):=by simp [ints]
theorem ints_succ {l:List Bx} (h:Low l) {i:Nat} (hi:i < l.length):ints (succ l i)=toE (endAt l i):=by
 unfold succ ints
 rw [if_pos hi,List.map_map]
 refine (List.map_congr_left (fun x hx=>?_)).trans (List.map_id _)
 have:=h i hi x hx
 show ((x.toNat:Nat):Int)=x
 omega
theorem toE_len (x:Ex):(toE x).length≤2:=by
 unfold toE
 repeat' split
 all_goals simp
theorem succ_len (l:List Bx) (i:Nat):(succ l i).length≤2:=by
 unfold succ
 split
 ·rw [List.length_map];exact toE_len _
 ·simp

def blsP (p:Px) (f:Int):List Bx:=(p.funcs[f.toNat]?.getD default).blocks
theorem fn_blocks {p:Px} {f:Int} {k:Nat} {x:Fx} (h:Has1 p f k x):blsP p f=x.blocks:=by
 unfold blsP
 rw [h.eq,Int.toNat_natCast,h.at_]
 rfl
def askB (p:Px) (f b:Int):Int:=if findP p f≠0 then findP p f else if 0≤b∧b < (blsP p f).length then 0 else 2
theorem ask_find {p:Px} {f b:Int} (h:findP p f≠0):askB p f b=findP p f:=by unfold askB;rw [if_pos h]
theorem ask_zero {p:Px} {f b:Int} (h:askB p f b=0):findP p f=0∧0≤b∧b < (blsP p f).length:=by
 unfold askB at h
 split at h
 ·rename_i hh;exact absurd h hh
 ·rename_i hh
  split at h
  ·rename_i h2;exact ⟨by omega,h2⟩
  ·cases h
theorem ask_yes {p:Px} {f b:Int} (h:findP p f=0) (h0:0≤b) (h1:b < (blsP p f).length):askB p f b=0:=by
 unfold askB;rw [if_neg (fun e=>e h),if_pos ⟨h0,h1⟩]
theorem ask_no {p:Px} {f b:Int} (h:findP p f=0) (hb:¬ (0≤b∧b < (blsP p f).length)):askB p f b=2:=by
 unfold askB;rw [if_neg (fun e=>e h),if_neg hb]
theorem ask_first {p:Px} {f:Int} : askB p f 0=findP p f:=by
 by_cases h:findP p f=0
 ·obtain ⟨k,x,h1⟩:=has1 h
  rw [h]
  refine ask_yes h (by decide) ?_
  rw [fn_blocks h1]
  have:=h1.blocks1
  omega
 ·exact ask_find h
theorem low_fn {p:Px} {f:Int} (ho:POk p) (h:findP p f=0):Low (blsP p f)∧0 < (blsP p f).length∧(blsP p f).length≤16:=by
 obtain ⟨k,x,h1⟩:=has1 h
 rw [fn_blocks h1]
 refine low_of (find_zero h).1 ho ?_
 have:=h1.at_
 exact List.mem_of_getElem? this

/-! the answers -/
def nextA (p:Px) (f b:Int):List Int:=if askB p f b=0 then toE (endAt (blsP p f) b.toNat) else []
def predsA (p:Px) (f b:Int):List Int:=if askB p f b=0 then ints (aheadL (blsP p f) b.toNat) else []
def reachA (p:Px) (f:Int):List Int:=if findP p f=0 then ints (reachedL (blsP p f)) else []
def orderA (p:Px) (f:Int):List Int:=if findP p f=0 then ints (orderedL (blsP p f)) else []
end Go.Proofs.YtpejpnffcepdlaaGreatDoor.FwQ
namespace Go.Proofs.YtpejpnffcepdlaaGreatDoor.FkP
open TyM ShM ShP ShE ShH ShI ShN FwM FwC FwP FwQ

def each (t:Nat→List Nat) (f:Nat) (cs:List Nat) (s:List Nat × List Nat):List Nat × List Nat:=cs.foldl (fun s c=>thr t f c s) s
theorem each_snoc (t:Nat→List Nat) (f:Nat) (cs:List Nat) (c:Nat) (s:List Nat × List Nat):each t f (cs++[c]) s=thr t f c (each t f cs s):=by
 unfold each
 rw [List.foldl_append]
 rfl
theorem each_take {t:Nat→List Nat} {f k:Nat} {cs:List Nat} {s:List Nat × List Nat} (h:k < cs.length):each t f (cs.take (k+1)) s=thr t f cs[k] (each t f (cs.take k) s):=by
 rw [List.take_succ_eq_append_getElem h,each_snoc]
theorem each_res {t:Nat→List Nat} {n f:Nat} (ht:∀ i,i < n→∀ j∈t i,j < n):∀ (cs:List Nat) (s:List Nat × List Nat),Inv n s→(∀ c∈cs,c < n)→n+1≤f+s.1.length→Res t n cs s (each t f cs s)
 | [],s,hi,_,_=>Res.nil hi
 | c :: cs,s,hi,hc,hf=>by
  have h1:=thr_res ht f c s hi (hc c (by simp)) hf
  exact h1.cons (each_res ht cs _ h1.inv (fun d hd=>hc d (by simp [hd])) (by have:=h1.len;omega))
theorem thr_old {t:Nat→List Nat} {f b:Nat} {s:List Nat × List Nat} (h:b∈s.1):thr t f b s=s:=by
 cases f with
 | zero=>rfl
 | succ f=>unfold thr;rw [if_pos h]
theorem thr_new {t:Nat→List Nat} {f b:Nat} {s:List Nat × List Nat} (h:b∉s.1):thr t (f+1) b s=((each t f (t b) (s.1++[b],s.2)).1,(each t f (t b) (s.1++[b],s.2)).2++[b]):=by
 show (if b∈s.1 then s else _)=_
 rw [if_neg h]
 rfl
theorem inv_begin {n b:Nat} {s:List Nat × List Nat} (hi:Inv n s) (hb:b < n) (hm:b∉s.1):Inv n (s.1++[b],s.2):=by
 refine ⟨?_,fun v hv=>?_,fun v hv=>by simp [hi.sub v hv],hi.nd2⟩
 ·show (s.1++[b]).Nodup
  rw [List.nodup_append]
  refine ⟨hi.nd,by simp,fun v hv w hw e=>hm ?_⟩
  rw [List.mem_singleton.1 hw] at e
  exact e ▸ hv
 ·rcases List.mem_append.1 hv with hv | hv
  ·exact hi.lt v hv
  ·rw [List.mem_singleton.1 hv];exact hb
theorem inv_none (n:Nat):Inv n ([],[]):=⟨by simp,by simp,by simp,by simp⟩
theorem inv_len {n:Nat} {s:List Nat × List Nat} (hi:Inv n s):s.1.length≤n∧s.2.length≤n:=⟨nodup_len n hi.nd hi.lt,nodup_len n hi.nd2 fun v hv=>hi.lt v (hi.sub v hv)⟩

def behindL (l:List Bx) (from_:List Nat):List Nat:=(each (succ l) (l.length+1) from_ ([],[])).2
theorem behind_order (l:List Bx):(behindL l [0]).reverse=orderedL l:=rfl
theorem behind_all {l:List Bx} (h:Low l) {cs:List Nat} (hc:∀ c∈cs,c < l.length):Res (succ l) l.length cs ([],[]) (each (succ l) (l.length+1) cs ([],[])) :=
 each_res (succ_lt h) cs _ (inv_none _) hc (by simp)
theorem behind_nodup {l:List Bx} (h:Low l) {cs:List Nat} (hc:∀ c∈cs,c < l.length):(behindL l cs).Nodup:=(behind_all h hc).inv.nd2
theorem behind_mem {l:List Bx} (h:Low l) {cs:List Nat} (hc:∀ c∈cs,c < l.length) (v:Nat):v∈behindL l cs↔∃ c∈cs,FwM.Comes (succ l) c v:=by
 have hr:=behind_all h hc
 have hin:∀ u,u∈(each (succ l) (l.length+1) cs ([],[])).1→u∈(each (succ l) (l.length+1) cs ([],[])).2:=fun u hu=>by
  refine Classical.byContradiction fun hh=>?_
  have:=(hr.gray u).1 ⟨hu,hh⟩
  exact absurd this.1 (by simp)
 unfold behindL
 constructor
 ·intro hv
  rcases hr.new v (hr.inv.sub v hv) with h | h
  ·cases h
  ·exact h
 ·rintro ⟨c,hcm,h⟩
  induction h with
  | here=>exact hin c (hr.all c hcm)
  | step _ hd ih =>
   rcases hr.closed _ ih with h | h
   ·cases h
   ·exact hin _ (h _ hd)
theorem behind_len {l:List Bx} (h:Low l) {cs:List Nat} (hc:∀ c∈cs,c < l.length):(behindL l cs).length≤l.length:=(inv_len (behind_all h hc).inv).2

/-! what is rising is told by its members -/
theorem up_eq:∀ {a b:List Int},a.Pairwise (· < ·)→b.Pairwise (· < ·)→(∀ v,v∈a↔v∈b)→a=b
 | [],b,_,_,h=>by
  cases b with
  | nil=>rfl
  | cons x b=>exact absurd ((h x).2 (by simp)) (by simp)
 | x :: a,[],_,_,h=>absurd ((h x).1 (by simp)) (by simp)
 | x :: a,y :: b,ha,hb,h=>by
  obtain ⟨ha1,ha2⟩:=List.pairwise_cons.1 ha
  obtain ⟨hb1,hb2⟩:=List.pairwise_cons.1 hb
  have e:x=y:=by
   rcases List.mem_cons.1 ((h x).1 (by simp)) with e | hx
   ·exact e
   ·rcases List.mem_cons.1 ((h y).2 (by simp)) with e | hy
    ·exact e.symm
    ·have:=hb1 x hx
     have:=ha1 y hy
     omega
  subst e
  refine congrArg (x :: ·) (up_eq ha2 hb2 fun v=>?_)
  constructor
  ·intro hv
   rcases List.mem_cons.1 ((h v).1 (by simp [hv])) with e | hv'
   ·have:=ha1 v hv;omega
   ·exact hv'
  ·intro hv
   rcases List.mem_cons.1 ((h v).2 (by simp [hv])) with e | hv'
   ·have:=hb1 v hv;omega
   ·exact hv'
theorem sorted_up {a:List Int} (h:a.Nodup):(a.mergeSort fun x y=>decide (x≤y)).Pairwise (· < ·):=by
 have h1:=List.pairwise_mergeSort (le:=fun x y:Int=>decide (x≤y)) (fun a b c h1 h2=>by simp only [decide_eq_true_eq] at *;omega) (fun a b=>by simp only [Bool.or_eq_true,decide_eq_true_eq];omega) a
 have h2:(a.mergeSort fun x y=>decide (x≤y)).Nodup:=(List.mergeSort_perm a _).symm.nodup h
 refine (h1.and h2).imp fun ⟨h3,h4⟩=>?_
 simp only [decide_eq_true_eq] at h3
 omega
theorem ints_nodup {l:List Nat} (h:l.Nodup):(ints l).Nodup:=by
 unfold ints List.Nodup
 rw [List.pairwise_map]
 exact h.imp fun h e=>h (by omega)
theorem ints_up {l:List Nat} (h:l.Pairwise (· < ·)):(ints l).Pairwise (· < ·):=by
 unfold ints
 rw [List.pairwise_map]
 exact h.imp fun h=>by omega
theorem ints_mem_iff {l:List Nat} {v:Int} : v∈ints l↔∃ n∈l,(n:Int)=v:=by
 unfold ints
 exact List.mem_map
theorem behind_reach {l:List Bx} (h:Low l) (h0:0 < l.length):((ints (behindL l [0])).mergeSort fun x y=>decide (x≤y))=ints (reachedL l):=by
 have hc:∀ c∈[0],c < l.length:=fun c hc=>by rw [List.mem_singleton.1 hc];exact h0
 refine up_eq (sorted_up (ints_nodup (behind_nodup h hc))) (ints_up (reached_up l)) fun v=>?_
 rw [(List.mergeSort_perm _ _).mem_iff,ints_mem_iff,ints_mem_iff]
 constructor
 ·rintro ⟨n,hn,rfl⟩
  obtain ⟨c,hcm,hh⟩:=(behind_mem h hc n).1 hn
  rw [List.mem_singleton.1 hcm] at hh
  exact ⟨n,(reached_mem h h0 n).2 hh,rfl⟩
 ·rintro ⟨n,hn,rfl⟩
  exact ⟨n,(behind_mem h hc n).2 ⟨0,by simp,(reached_mem h h0 n).1 hn⟩,rfl⟩
end Go.Proofs.YtpejpnffcepdlaaGreatDoor.FkP
namespace Go.Proofs.YtpejpnffcepdlaaGreatDoor.FkS
open Go.RowKit Go.Lib Go.Maps SetP IntO TyM TyP TyB ShM ShP Aft Fresh FwM FwC FwP FwQ FwR FwO FkP

theorem law_int:Keyed Tryz.prog 3:=int_keyed Tryz.underlying3
theorem zero_unit (w:World):(zeroValue 215).run Tryz.prog w=.ok (.agg #[]) w:=by kernel_rfl
theorem key_int {n:Nat} (h:n≤1000):keyOf Tryz.prog 3 (.int .i64 (n:Int))=some (.int .i64 (n:Int)):=by
 refine keyOf_int_mk Tryz.underlying3 ?_
 exact WalkArith.wf_i64 (by omega)
theorem key_lit (n:Int):WideAt.IsKeyLit (Lit.int .i64 n):=trivial

def MapAt (w:World) (bm:Nat) (l:List Nat):Prop:=∃ D:DataW Unit,w.ownsMap Tryz.prog 3 unitElem bm l.length D∧∀ n:Nat,Maps.has D (.int .i64 (n:Int))=decide (n∈l)
theorem MapAt.lt {w:World} {bm:Nat} {l:List Nat} (h:MapAt w bm l):bm < w.heap.size:=by obtain ⟨D,h1,_⟩:=h;exact h1.lt
theorem mapAt_made (w:World):MapAt (w.alloc (.map #[] 0)) w.heap.size []:=⟨.map [],World.ownsMap_made _ _ _ _,fun n=>by simp [Maps.has]⟩
theorem MapAt.kept {w w' : World} {bm:Nat} {l:List Nat} (h:MapAt w bm l) (hb:w'.heap[bm]?=w.heap[bm]?):MapAt w' bm l:=by
 obtain ⟨D,⟨es,clock,h1,r⟩,h2⟩:=h
 exact ⟨D,⟨es,clock,hb.trans h1,r⟩,h2⟩
theorem has_put {D:DataW Unit} (hD:IsMap D) {l:List Nat} (h:∀ n:Nat,Maps.has D (.int .i64 (n:Int))=decide (n∈l)) (b:Nat) (d:DataW Unit):∀ n:Nat,Maps.has (D.put (.int .i64 (b:Int)) d) (.int .i64 (n:Int))=decide (n∈l++[b]):=by
 intro n
 by_cases e:n=b
 ·subst e
  rw [has_put_same hD (key_lit _)]
  simp
 ·have hne:(Lit.int .i64 (n:Int))≠Lit.int .i64 (b:Int):=fun h=>by
   injection h with _ h
   omega
  rw [has_put_other hne,h n]
  simp [e]

theorem row_typed {w:World} {B sz n g:Nat} {e:TypeId} {v:Value} {xs:List Value} (h:w.ownsRow B e sz v n xs) (hv:v.ownBlock=some g):∃ cs,w.heap[g]?=some (.cells cs e (0,0)):=by
 rcases h.2 with ⟨rfl,_⟩ | ⟨g',cap,cur,rfl,hb,hg,_⟩
 ·cases hv
 ·cases hv;exact ⟨cur,hg⟩

structure St (W0:World) (vb:Value) (p bm:Nat) (vo:Value) (s:List Nat × List Nat) (w:World):Prop where
 blk:w.heap[p]?=some (.cells #[vb,.map (some bm),vo] 257 (0,0))
 map:MapAt w bm s.1
 row:w.ownsRow W0.heap.size 3 1 vo s.2.length (intVals (ints s.2))
 bel:Below W0.heap.size W0 w
 hp:W0.heap.size≤p
 hm:W0.heap.size≤bm
section
variable {W0:World} {vb:Value} {p bm:Nat} {vo:Value} {s:List Nat × List Nat} {w:World}
theorem St.lt (h:St W0 vb p bm vo s w):p < w.heap.size:=(Array.getElem?_eq_some_iff.1 h.blk).1
theorem St.ne (h:St W0 vb p bm vo s w):bm≠p:=by
 intro e
 obtain ⟨D,⟨es,clock,h1,_⟩,_⟩:=h.map
 have h2:=h.blk
 rw [e] at h1
 rw [h1] at h2
 cases h2
theorem St.row_p (h:St W0 vb p bm vo s w):vo.ownBlock≠some p:=by
 intro e
 obtain ⟨cs,h1⟩:=row_typed h.row e
 rw [h.blk] at h1
 cases h1
theorem St.row_m (h:St W0 vb p bm vo s w):vo.ownBlock≠some bm:=by
 intro e
 obtain ⟨cs,h1⟩:=row_typed h.row e
 obtain ⟨D,⟨es,clock,h2,_⟩,_⟩:=h.map
 rw [h1] at h2
 cases h2
theorem St.go {w' : World} (h:St W0 vb p bm vo s w) (hb:Below w.heap.size w w'):St W0 vb p bm vo s w' :=
 ⟨(hb.block p h.lt).trans h.blk,h.map.kept (hb.block bm h.map.lt),ownsRow_below h.row hb,h.bel.trans (hb.mono h.bel.size),h.hp,h.hm⟩
theorem St.cell (h:St W0 vb p bm vo s w):w.cell? ⟨p,0,none⟩=some vb∧w.cell? ⟨p,1,none⟩=some (.map (some bm))∧w.cell? ⟨p,2,none⟩=some vo∧∀ i,w.frozen? ⟨p,i,none⟩=false:=by
 refine ⟨?_,?_,?_,fun i=>?_⟩
 ·unfold World.cell?;rw [h.blk];simp
 ·unfold World.cell?;rw [h.blk];simp
 ·unfold World.cell?;rw [h.blk];simp
 ·unfold World.frozen?;rw [h.blk];simp
def Keeps3 (p bm:Nat) (vo:Value) (w w' : World):Prop:=w.heap.size≤w'.heap.size∧∀ j,j < w.heap.size→j≠p→j≠bm→vo.ownBlock≠some j→w'.heap[j]?=w.heap[j]?
theorem Keeps3.refl (p bm:Nat) (vo:Value) (w:World):Keeps3 p bm vo w w:=⟨Nat.le_refl _,fun _ _ _ _ _=>rfl⟩
theorem Keeps3.below {w' : World} (h:Below w.heap.size w w'):Keeps3 p bm vo w w':=⟨h.size,fun j hj _ _ _=>h.block j hj⟩
theorem Keeps3.trans {vo1:Value} {w1 w2:World} (h:Keeps3 p bm vo w w1) (hr:NewRow w vo vo1) (k:Keeps3 p bm vo1 w1 w2):Keeps3 p bm vo w w2:=by
 refine ⟨Nat.le_trans h.1 k.1,fun j hj hp hm hv=>?_⟩
 rw [k.2 j (Nat.lt_of_lt_of_le hj h.1) hp hm ?_,h.2 j hj hp hm hv]
 rcases hr with hr | ⟨g,hr,hg⟩
 ·rw [hr];exact hv
 ·rw [hr];intro e;cases e;omega
def Away3 (p bm:Nat) (vo:Value) (w:World) (v:Value):Prop:=∀ g off n c,v=.slice (some ⟨g,off,none⟩) n c→0 < n→g < w.heap.size∧g≠p∧g≠bm∧vo.ownBlock≠some g
theorem Away3.keep {vo1 v:Value} {w1:World} (h:Away3 p bm vo w v) (hk:Keeps3 p bm vo w w1) (hr:NewRow w vo vo1):Away3 p bm vo1 w1 v:=by
 intro g off n c e hn
 obtain ⟨h1,h2,h3,h4⟩:=h g off n c e hn
 refine ⟨Nat.lt_of_lt_of_le h1 hk.1,h2,h3,?_⟩
 rcases hr with hr | ⟨g',hr,hg'⟩
 ·rw [hr];exact h4
 ·rw [hr];intro e;cases e;omega
theorem Away3.ints {v:Value} {w1:World} {l:List Int} (h:Away3 p bm vo w v) (hk:Keeps3 p bm vo w w1) (hi:IntsAt w v l):IntsAt w1 v l:=by
 obtain ⟨ao,cap,rfl,hl,hm,hz⟩:=hi
 refine ⟨ao,cap,rfl,hl,fun h0=>?_,hz⟩
 obtain ⟨b,off,rfl,hlt,hc⟩:=hm h0
 obtain ⟨h1,h2,h3,h4⟩:=h b off _ _ rfl h0
 refine ⟨b,off,rfl,Nat.lt_of_lt_of_le hlt hk.1,fun i hi=>?_⟩
 have hcell:=hc i hi
 unfold World.cell? at hcell ⊢
 rw [hk.2 b hlt h2 h3 h4]
 exact hcell
theorem away_new {w1:World} {v:Value} {l:List Int} (h:St W0 vb p bm vo s w) (hv:NewI w.heap.size w1 v l):Away3 p bm vo w1 v:=by
 intro g off n c e hn
 have h1:=hv.2 g off n c e
 obtain ⟨ao,cap,rfl,_,hm,_⟩:=hv.1
 cases e
 obtain ⟨b,o,hb,hlt,_⟩:=hm hn
 cases hb
 refine ⟨hlt,?_,?_,fun e=>?_⟩
 ·have:=h.lt;omega
 ·have:=h.map.lt;omega
 ·have:=(h.row.lt g e).2;omega
theorem St.begin {D:DataW Unit} {w1:World} {b n:Nat} {d:DataW Unit} (h:St W0 vb p bm vo s w) (hD:w.ownsMap Tryz.prog 3 unitElem bm n D) (hh:∀ n:Nat,Maps.has D (.int .i64 (n:Int))=decide (n∈s.1)) (ho:w1.ownsMap Tryz.prog 3 unitElem bm (s.1.length+1) (D.put (.int .i64 (b:Int)) d)) (hg:w.grownBy w1 (some bm)) :
  St W0 vb p bm vo (s.1++[b],s.2) w1∧Keeps3 p bm vo w w1:=by
 have hbp:w1.heap[p]?=w.heap[p]?:=hg.block p h.lt (fun e=>h.ne (Option.some.inj e).symm)
 refine ⟨⟨hbp.trans h.blk,⟨_,by simpa using ho,has_put hD.isMap hh b d⟩,h.row.kept hg (.inr h.row_m),h.bel.grown hg h.bel.size (fun k hk=>?_),h.hp,h.hm⟩,hg.size,fun j hj _ hm _=>hg.block j hj (fun e=>hm (Option.some.inj e))⟩
 cases hk
 exact h.hm
theorem St.put {w1:World} {b:Nat} {v' : Value} {tmp:Obj} (h:St W0 vb p bm vo s w) (ho:w1.ownsRow W0.heap.size 3 1 v' (s.2.length+1) (intVals (ints s.2)++intVals [(b:Int)])) (hg:(w.alloc tmp).grownBy w1 vo.ownBlock) (hn:NewRow (w.alloc tmp) vo v') :
  St W0 vb p bm v' (s.1,s.2++[b]) (w1.setCell ⟨p,2,none⟩ v')∧Keeps3 p bm vo w (w1.setCell ⟨p,2,none⟩ v')∧NewRow w vo v':=by
 have hs:w.heap.size+1≤w1.heap.size:=by have:=hg.size;simpa using this
 have old:∀ j,j < w.heap.size→vo.ownBlock≠some j→w1.heap[j]?=w.heap[j]?:=fun j hj hv=>(hg.block j (by simp;omega) (fun e=>hv e.symm)).trans (Below.heap_alloc _ _ _ hj)
 have hbp:w1.heap[p]?=some (.cells #[vb,.map (some bm),vo] 257 (0,0)):=(old p h.lt h.row_p).trans h.blk
 have hvp:v'.ownBlock≠some p:=by
  intro e
  obtain ⟨cs,h1⟩:=row_typed ho e
  rw [hbp] at h1
  cases h1
 refine ⟨⟨?_,?_,?_,?_,h.hp,h.hm⟩,⟨by rw [TyD.size_set];omega,fun j hj hp _ hv=>?_⟩,NewRow.alloc hn⟩
 ·have:=TyD.set_heap (i:=2) v' hbp
  simpa using this
 ·refine h.map.kept ?_
  rw [Below.heap_setCell w1 ⟨p,2,none⟩ v' bm h.ne]
  exact old bm h.map.lt h.row_m
 ·have h1:w1.ownsRow W0.heap.size 3 1 v' (s.2++[b]).length (intVals (ints (s.2++[b]))):=by
   rw [ints_append,intVals_append,List.length_append]
   exact ho
  refine ⟨h1.1,?_⟩
  rcases h1.2 with h2 | ⟨g,cap,cur,rfl,hb,hh,r⟩
  ·exact .inl h2
  ·exact .inr ⟨g,cap,cur,rfl,hb,(Below.heap_setCell w1 ⟨p,2,none⟩ _ g (fun e=>hvp (by rw [e];rfl))).trans hh,r⟩
 ·have hb1:Below W0.heap.size W0 w1:=(h.bel.alloc h.bel.size tmp).grown hg (by simp only [World.size_alloc];have:=h.bel.size;omega) (fun k hk=>(h.row.lt k hk).1)
  exact hb1.setCell (p:=⟨p,2,none⟩) h.hp v'
 ·rw [Below.heap_setCell w1 ⟨p,2,none⟩ v' j hp,old j hj hv]
end
theorem newI_base {B B2:Nat} {w:World} {v:Value} {l:List Int} (h:NewI B w v l) (hb:B2≤B):NewI B2 w v l:=⟨h.1,fun g off n c e=>Nat.le_trans hb (h.2 g off n c e)⟩
def WkR (W0:World) (vb:Value) (p bm:Nat) (s:List Nat × List Nat) (vo:Value) (w:World) (e:Ending) (w' : World):Prop:=e=.returned (.tuple #[])∧∃ vo',St W0 vb p bm vo' s w'∧Keeps3 p bm vo w w'∧NewRow w vo vo'
end Go.Proofs.YtpejpnffcepdlaaGreatDoor.FkS
namespace Go.Proofs.YtpejpnffcepdlaaGreatDoor.FvB
open Go.RowKit Go.Lib SetP IntO TyM TyP TyB TyC ShM ShP ShA ShB ShC ShH ShI ShJ Aft FwP FwQ FwR

theorem fn_later {W:World} {vf:Value} {p:Px} {f:Int} {k:Nat} {x:Fx} (h:FnsAt W vf p.funcs) (h1:Has1 p f k x):∃ b off cap ao c,vf=.slice (some ⟨b,off,none⟩) p.funcs.length cap∧(∀ w',Aft W w'→w'.cell? ⟨b,off+k * 2,none⟩=some (.int .i64 x.sig))∧(∀ w',Aft W w'→w'.cell? ⟨b,off+k * 2+1,none⟩=some (.slice ao x.blocks.length c))∧BlksAt W (.slice ao x.blocks.length c) x.blocks:=by
 obtain ⟨b,off,cap,vb,rfl,hb,c0,c1,hbl⟩:=fn_at h h1
 obtain ⟨ao,c,rfl,_⟩:=hbl.slice
 exact ⟨b,off,cap,ao,c,rfl,later c0,later c1,hbl⟩

end Go.Proofs.YtpejpnffcepdlaaGreatDoor.FvB
namespace Go.Proofs.YtpejpnffcepdlaaGreatDoor.FvC
open TyM ShM ShP ShE ShH ShI ShN ShJ FwM FwC FwP FwQ

def aheadN (l:List Bx) (b k:Nat):List Nat:=(List.range k).filter fun i=>decide (b∈succ l i)
theorem aheadN_all (l:List Bx) (b:Nat):aheadN l b l.length=aheadL l b:=rfl
theorem aheadN_len (l:List Bx) (b k:Nat):(aheadN l b k).length≤k:=by
 have:=List.length_filter_le (fun i=>decide (b∈succ l i)) (List.range k)
 rw [List.length_range] at this
 exact this
theorem aheadN_yes {l:List Bx} {b k:Nat} (h:b∈succ l k):aheadN l b (k+1)=aheadN l b k++[k]:=by
 unfold aheadN
 rw [List.range_succ,List.filter_append]
 simp [h]
theorem aheadN_no {l:List Bx} {b k:Nat} (h:¬ b∈succ l k):aheadN l b (k+1)=aheadN l b k:=by
 unfold aheadN
 rw [List.range_succ,List.filter_append]
 simp [h]
end Go.Proofs.YtpejpnffcepdlaaGreatDoor.FvC
namespace Go.Proofs.YtpejpnffcepdlaaGreatDoor.FwB
open TyM ShM ShP ShE ShH ShI ShN FwM FwC FwP FwQ

structure Bfs (t:Nat→List Nat) (n a i:Nat) (seen:List Nat):Prop where
 nd:seen.Nodup
 lt:∀ v∈seen,v < n
 snd:∀ v∈seen,FwM.Comes t a v
 mem:a∈seen
 closed:∀ j u,j < i→seen[j]?=some u→∀ c∈t u,c∈seen
theorem Bfs.start {t:Nat→List Nat} {n a:Nat} (h:a < n):Bfs t n a 0 [a] :=
 ⟨by simp,fun v hv=>by rw [List.mem_singleton.1 hv];exact h,fun v hv=>by rw [List.mem_singleton.1 hv];exact .here,by simp,fun j u hj=>absurd hj (by omega)⟩
theorem Bfs.len {t:Nat→List Nat} {n a i:Nat} {seen:List Nat} (h:Bfs t n a i seen):seen.length≤n:=nodup_len n h.nd h.lt
theorem Bfs.put {t:Nat→List Nat} {n a i c u:Nat} {seen:List Nat} (ht:∀ i,i < n→∀ j∈t i,j < n) (h:Bfs t n a i seen) (hu:u∈seen) (hc:c∈t u) (hn:c∉seen) (hi:i≤seen.length):Bfs t n a i (seen++[c]):=by
 refine ⟨?_,fun v hv=>?_,fun v hv=>?_,by simp [h.mem],fun j v hj hv d hd=>?_⟩
 ·rw [List.nodup_append]
  refine ⟨h.nd,by simp,fun x hx y hy e=>hn ?_⟩
  rw [List.mem_singleton.1 hy] at e
  exact e ▸ hx
 ·rcases List.mem_append.1 hv with hv | hv
  ·exact h.lt v hv
  ·rw [List.mem_singleton.1 hv];exact ht u (h.lt u hu) c hc
 ·rcases List.mem_append.1 hv with hv | hv
  ·exact h.snd v hv
  ·rw [List.mem_singleton.1 hv];exact .step (h.snd u hu) hc
 ·rw [List.getElem?_append_left (by omega)] at hv
  exact List.mem_append.2 (.inl (h.closed j v hj hv d hd))
theorem Bfs.next {t:Nat→List Nat} {n a i u:Nat} {seen:List Nat} (h:Bfs t n a i seen) (hu:seen[i]?=some u) (hall:∀ c∈t u,c∈seen):Bfs t n a (i+1) seen:=by
 refine ⟨h.nd,h.lt,h.snd,h.mem,fun j v hj hv=>?_⟩
 by_cases e:j=i
 ·subst e
  rw [hu] at hv
  cases hv
  exact hall
 ·exact h.closed j v (by omega) hv
theorem Bfs.all {t:Nat→List Nat} {n a:Nat} {seen:List Nat} (h:Bfs t n a seen.length seen) (v:Nat):v∈seen↔FwM.Comes t a v:=by
 refine ⟨h.snd v,fun hc=>?_⟩
 induction hc with
 | here=>exact h.mem
 | step _ hd ih =>
  obtain ⟨j,hj,e⟩:=List.getElem_of_mem ih
  exact h.closed j _ hj (by rw [List.getElem?_eq_getElem hj,e]) _ hd
end Go.Proofs.YtpejpnffcepdlaaGreatDoor.FwB
namespace Go.Proofs.YtpejpnffcepdlaaGreatDoor.FwK
open Go.RowKit Go.Lib SetP IntO TyM TyP TyB ShM ShP ShA ShI FwP FwQ FwR

def I64 (n:Int):Prop:=-9223372036854775808≤n∧n≤9223372036854775807
def NextC:Prop:=∀ (p:Px) (f b:Int) (v:Value) (w:World),PrAt w v p→Tab w→Small p→POk p→I64 f→I64 b →
 Calls Tryz.prog 85 #[v,.int .i64 f,.int .i64 b] w (LstN (nextA p f b) (askB p f b) w)
def PredsC:Prop:=∀ (p:Px) (f b:Int) (v:Value) (w:World),PrAt w v p→Tab w→Small p→POk p→I64 f→I64 b →
 Calls Tryz.prog 23 #[v,.int .i64 f,.int .i64 b] w (LstN (predsA p f b) (askB p f b) w)
def ReachC:Prop:=∀ (p:Px) (f:Int) (v:Value) (w:World),PrAt w v p→Tab w→Small p→POk p→I64 f →
 Calls Tryz.prog 115 #[v,.int .i64 f] w (LstN (reachA p f) (findP p f) w)
def OrderC:Prop:=∀ (p:Px) (f:Int) (v:Value) (w:World),PrAt w v p→Tab w→Small p→POk p→I64 f →
 Calls Tryz.prog 95 #[v,.int .i64 f] w (LstN (orderA p f) (findP p f) w)
theorem NextC.e (h:NextC):∀ (p:Px) (f b:Int) (v:Value) (w:World),PrAt w v p→Tab w→Small p→POk p→I64 f→I64 b→Calls Tryz.prog 85 #[v,.int .i64 f,.int .i64 b] w (LstE (nextA p f b) (askB p f b) w):=fun p f b v w h1 h2 h3 h4 j1 j2=>(h p f b v w h1 h2 h3 h4 j1 j2).mono fun _ _ h=>h.e
theorem PredsC.e (h:PredsC):∀ (p:Px) (f b:Int) (v:Value) (w:World),PrAt w v p→Tab w→Small p→POk p→I64 f→I64 b→Calls Tryz.prog 23 #[v,.int .i64 f,.int .i64 b] w (LstE (predsA p f b) (askB p f b) w):=fun p f b v w h1 h2 h3 h4 j1 j2=>(h p f b v w h1 h2 h3 h4 j1 j2).mono fun _ _ h=>h.e
theorem ReachC.e (h:ReachC):∀ (p:Px) (f:Int) (v:Value) (w:World),PrAt w v p→Tab w→Small p→POk p→I64 f→Calls Tryz.prog 115 #[v,.int .i64 f] w (LstE (reachA p f) (findP p f) w):=fun p f v w h1 h2 h3 h4 j1=>(h p f v w h1 h2 h3 h4 j1).mono fun _ _ h=>h.e
theorem OrderC.e (h:OrderC):∀ (p:Px) (f:Int) (v:Value) (w:World),PrAt w v p→Tab w→Small p→POk p→I64 f→Calls Tryz.prog 95 #[v,.int .i64 f] w (LstE (orderA p f) (findP p f) w):=fun p f v w h1 h2 h3 h4 j1=>(h p f v w h1 h2 h3 h4 j1).mono fun _ _ h=>h.e
end Go.Proofs.YtpejpnffcepdlaaGreatDoor.FwK
namespace Go.Proofs.YtpejpnffcepdlaaGreatDoor.IntG
open Go.RowKit Go.Lib SetP IntO TyM TyP FwQ

theorem int_at {w:World} {ao:Option Addr} {n cap i:Nat} {l:List Int} {c:Int} (h:IntsAt w (.slice ao n cap) l) (hc:l[i]?=some c):∃ b off,ao=some ⟨b,off,none⟩∧w.cell? ⟨b,off+i,none⟩=some (.int .i64 c):=by
 obtain ⟨hi,rfl⟩:=List.getElem?_eq_some_iff.1 hc
 obtain ⟨b,off,rfl,_,h2⟩:=TyP.ints_at h i hi
 exact ⟨b,off,rfl,h2⟩
theorem nat_at {w:World} {ao:Option Addr} {n cap i c:Nat} {l:List Nat} (h:IntsAt w (.slice ao n cap) (ints l)) (hc:l[i]?=some c):∃ b off,ao=some ⟨b,off,none⟩∧w.cell? ⟨b,off+i,none⟩=some (.int .i64 (c:Int)) :=
 int_at h (by rw [nums_get,hc];rfl)
theorem some_at {α:Type} {l:List α} {i:Nat} (h:i < l.length):∃ c,l[i]?=some c:=⟨_,List.getElem?_eq_getElem h⟩
end Go.Proofs.YtpejpnffcepdlaaGreatDoor.IntG
namespace Go.Proofs.YtpejpnffcepdlaaGreatDoor.BlkG
open Go.RowKit Go.Lib SetP IntO TyM TyP ShM ShP Aft FwP FwQ LvM IntG

theorem blk_ins {W:World} {ao:Option Addr} {n cap:Nat} {l:List Bx} (h:BlksAt W (.slice ao n cap) l) {b:Nat} (hb:b < l.length):∃ g off xa xc,ao=some ⟨g,off,none⟩∧(∀ w',Aft W w'→w'.cell? ⟨g,off+b * 5,none⟩=some (.slice xa (insAt l b).length xc))∧InsAt W (.slice xa (insAt l b).length xc) (insAt l b) ∧
  (∀ w',Aft W w'→w'.cell? ⟨g,off+b * 5+1,none⟩=some (.int .u8 (endAt l b).kind))∧(∀ w',Aft W w'→w'.cell? ⟨g,off+b * 5+2,none⟩=some (.int .i64 (endAt l b).a))∧(∀ w',Aft W w'→w'.cell? ⟨g,off+b * 5+3,none⟩=some (.int .i64 (endAt l b).to))∧(∀ w',Aft W w'→w'.cell? ⟨g,off+b * 5+4,none⟩=some (.int .i64 (endAt l b).els)):=by
 obtain ⟨g,off,rfl,hlt,vi,c0,c1,c2,c3,c4,hins⟩:=h.at b hb
 have he:endAt l b=l[b].en:=by unfold endAt;rw [List.getElem?_eq_getElem hb];rfl
 have hi:insAt l b=l[b].ins:=by unfold insAt;rw [List.getElem?_eq_getElem hb];rfl
 obtain ⟨ia,ic,rfl,_⟩:=hins.slice
 rw [he,hi]
 exact ⟨g,off,ia,ic,rfl,later c0,hins,later c1,later c2,later c3,later c4⟩
theorem ins_later {W:World} {ao:Option Addr} {n cap:Nat} {xs:List Ix} (h:InsAt W (.slice ao n cap) xs) {k:Nat} {x:Ix} (hk:xs[k]?=some x):∃ g off aa ac fa fc,ao=some ⟨g,off,none⟩∧(∀ w',Aft W w'→w'.cell? ⟨g,off+k * 7,none⟩=some (.int .u8 x.op))∧(∀ w',Aft W w'→w'.cell? ⟨g,off+k * 7+1,none⟩=some (.int .i64 x.typ))∧(∀ w',Aft W w'→w'.cell? ⟨g,off+k * 7+2,none⟩=some (.int .i64 x.a)) ∧
  (∀ w',Aft W w'→w'.cell? ⟨g,off+k * 7+3,none⟩=some (.int .i64 x.b))∧(∀ w',Aft W w'→w'.cell? ⟨g,off+k * 7+4,none⟩=some (.int .i64 x.n))∧(∀ w',Aft W w'→w'.cell? ⟨g,off+k * 7+5,none⟩=some (.slice aa x.args.length ac))∧(∀ w',Aft W w'→w'.cell? ⟨g,off+k * 7+6,none⟩=some (.slice fa x.frm.length fc)) ∧
  (∀ w',Aft W w'→IntsAt w' (.slice aa x.args.length ac) x.args)∧(∀ w',Aft W w'→IntsAt w' (.slice fa x.frm.length fc) x.frm):=by
 obtain ⟨hi,rfl⟩:=List.getElem?_eq_some_iff.1 hk
 obtain ⟨g,off,rfl,_,ya,yf,z0,z1,z2,z3,z4,z5,z6,hya,hyf⟩:=h.at k hi
 obtain ⟨aa,ac,rfl,_⟩:=ints_slice hya
 obtain ⟨fa,fc,rfl,_⟩:=ints_slice hyf
 exact ⟨g,off,aa,ac,fa,fc,rfl,later z0,later z1,later z2,later z3,later z4,later z5,later z6,fun w' h=>hya.below h.below,fun w' h=>hyf.below h.below⟩
end Go.Proofs.YtpejpnffcepdlaaGreatDoor.BlkG
