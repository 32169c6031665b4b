/- A walk over fescueref09.Reached. Plain facts on a search through a graph of few vertices: a list that grows by what its own members go to. What is asked of the package flow: its functions' contracts, as propositions. A list's cells, by what stands at a place. A block's and an instruction's cells, by insAt and endAt, in every world behind. Walks over slices.Index at []blocks, dom's next, shared. Walk over dom.rule: rounds, up to one in which nothing is turned. Walk over shape.Regs. Walks over flow.next, find, Next. Walks over (*flow.walk).each, (*flow.walk).through and flow.behind. Walk over flow.Preds. The place of a register: plain facts. Walk over shape.Place. The register of a place: plain facts. What layer 10 answers of a program, in plain: errors, rulers, and what is set. Walk over fescueref10.Ruled. What is asked of the package dom: its functions' contracts, as propositions. -/
import Derived.Test.YtpejpnffcepdlaaGreatDoorYShIToFvEU
import Derived.Test.YtpejpnffcepdlaaGreatDoorYFwRToTyRT
import Derived.Test.YtpejpnffcepdlaaGreatDoorYShAToShAn
import Derived.Test.YtpejpnffcepdlaaGreatDoorYIntOToSwXd
import Derived.Test.YtpejpnffcepdlaaGreatDoorYTyBToTyTI
import Derived.Deep.LoopGhost
import Derived.Deep.QuietTactic
import Derived.BigQuiet
import Derived.Deep.RegionHeld3
import Derived.Deep.Cut
import Derived.Deep.DeepCutAuto
import Derived.Deep.MidRow
import Derived.Test.YtpejpnffcepdlaaGreatDoorYRwHToShTB
set_option maxRecDepth 100000
set_option maxHeartbeats 16000000
namespace Go.Proofs.YtpejpnffcepdlaaGreatDoor.FvE
open Go.RowKit Go.Lib RwO SetP IntO TyM TyP TyB TyC ShM ShP ShA ShB ShC ShE ShH ShI ShJ Aft FwM FwC FwP FwQ FwR FvA FvB FvC FvP RwB FvD

theorem reached_calls (l:List Bx) (v:Value) (w:World) (hl:BlksAt w v l) (hlow:Low l) (hn0:0 < l.length) (hlen:l.length≤1000) :
  Calls Tryz.prog 76 #[v] w (LstR (ints (reachedL l)) w):=by
 have hb0:=alloc_below w (.cells #[.int .i64 0] 3)
 have HC:=hid (come_calls l [0] (-1) v _ _ (hl.below blkStays hb0) (ints_lit w (ints [0]) 1 #[.int .i64 0] rfl rfl (by simp [ints])) hlow (fun a ha=>by rw [List.mem_singleton.1 ha];exact hn0) hlen)
 have HCL:Hid ((comeO (succ l) (-1) l.length [0]).length=l.length):=come_len _ _ _ _
 have HRL:Hid (reachedL l=upN (fun i=>has (comeO (succ l) (-1) l.length [0]) i) l.length):=rfl
 have HLEN:=hid hlen
 have HB0:=hid hb0
 obtain ⟨ao,cap,rfl,hll⟩:=hl.slice
 clear hl hlow hn0 hb0
 generalize comeO (succ l) (-1) l.length [0]=bs at *
 generalize reachedL l=ans at *
 go_enter Tryz.func76,Tryz.ntmps76
 go_wp2_with fail
 refine HC.out.mono ?_
 rintro e w1 ⟨g,rfl,hrow,hb1⟩
 have hbe:=HB0.out.trans (hb1.mono HB0.out.size)
 have HROW:=hid hrow
 have HBE:=hid hbe
 have hll2:bs.length≤1000:=by rw [HCL.out];exact hlen
 rw [← HCL.out] at HRL
 clear HC HB0 hb1 hrow hbe HLEN hlen hll
 generalize l.length=nl at *
 go_wp2
 go_loopg [3,5] bs.length (fun gk u i wr=>∃ k:Nat,k+gk=bs.length∧i=.int .i64 k∧wr.ownsRow w1.heap.size 3 1 u (upN (fun i=>has bs i) k).length (intVals (ints (upN (fun i=>has bs i) k)))∧Below w1.heap.size w1 wr)
 case atStart=>exact ⟨0,by omega,rfl,World.ownsRow_nil _ _ _ _,Below.refl _ _⟩
 case round =>
  obtain ⟨k,hk,rfl,hown,hb⟩:=hrel
  have HK:=hid hk
  have HLN:=hid (upN_len (fun i=>has bs i) k)
  have HOWN:=hid hown
  have HB:=hid hb
  obtain ⟨ua,un,rfl⟩:=own_slice hown
  by_cases hlt:k < bs.length
  ·have HLT:=hid hlt
   obtain ⟨b,hbk,_,hy,_⟩:=(HROW.out.below hb).at k hlt
   have hhas:=has_at hbk
   have HYES:=hid (upN_yes (q:=fun i=>has bs i) (k:=k))
   have HNO:=hid (upN_no (q:=fun i=>has bs i) (k:=k))
   have hkl:(k:Int) < (bs.length:Int):=by omega
   clear hk hown hb hbk
   cases b with
   | true =>
    have HA:=hid (HYES.out hhas)
    clear HYES HNO hhas
    generalize upN (fun i=>has bs i) k=up at *
    have HO3:=hid (HOWN.out.alloc (.cells #[.int .i64 k] 3))
    have HI3:=hid (ints_one (w:=wr.alloc (.cells #[.int .i64 k] 3)) (b:=wr.heap.size) (n:=k) (cell_new _ _ _ _ rfl) (size_new _ _ _ rfl))
    have hsz:w1.heap.size≤(wr.alloc (.cells #[.int .i64 k] 3)).heap.size:=by have:=HB.out.size;simp only [World.size_alloc];omega
    have hxs:up.length≤100000:=by have:=HLN.out;omega
    go_wp2_with (at_builtin;refine wpList_append_ints rfl (.tmp 19) (.tmp 21) rfl w1.heap.size (.slice ua up.length un) rfl up.length (intVals (ints up)) HO3.out hxs (.slice (some ⟨wr.heap.size,0,none⟩) 1 1) [(k:Int)] rfl HI3.out (by simp) hsz ?_)
    intro v' w' hown' hgr
    have HB4:=hid (own_grown (HB.out.alloc (by have:=HB.out.size;omega) _) HO3.out hgr hsz)
    have HNX:Hid (w'.ownsRow w1.heap.size 3 1 v' (up++[k]).length (intVals (ints (up++[k])))):=by
     show World.ownsRow _ _ _ _ _ _ _
     rw [ints_append,intVals_append,List.length_append]
     exact hown'
    obtain ⟨va,vn,rfl⟩:=own_slice hown'
    clear hown' hgr HI3 HO3 hsz
    go_wp2
    go_roundg (gk - 1)
    case measure=>have:=HK.out;have:=HLT.out;omega
    case rel=>exact ⟨k+1,by have:=HK.out;have:=HLT.out;omega,by go_num,by rw [HA.out];have:=HNX.out;rw [List.length_append] at this ⊢;exact this,HB4.out⟩
   | false =>
    have HA:=hid (HNO.out hhas)
    clear HYES HNO hhas
    go_wp2
    go_roundg (gk - 1)
    case measure=>have:=HK.out;have:=HLT.out;omega
    case rel=>exact ⟨k+1,by have:=HK.out;have:=HLT.out;omega,by go_num,by rw [HA.out];exact HOWN.out,HB.out⟩
  ·obtain rfl:k=bs.length:=by omega
   rw [← HRL.out] at HOWN HLN ⊢
   have HI:=hid (intsAt_of_owns (l:=ints ans) HOWN.out (by rw [ints_length];have:=HLN.out;omega))
   clear hk hown
   generalize ans.length=m at *
   generalize bs.length=n at *
   go_wp2
   go_ret
   exact ⟨_,rfl,HI.out,HBE.out.trans (HB.out.mono HBE.out.size)⟩
end Go.Proofs.YtpejpnffcepdlaaGreatDoor.FvE
namespace Go.Proofs.YtpejpnffcepdlaaGreatDoor.FwB
open TyM ShM ShP ShE ShH ShI ShN FwM FwC FwP FwQ

structure Bfs (t:Nat→List Nat) (n a i:Nat) (seen:List Nat):Prop where
 nd:seen.Nodup
 lt:∀ v∈seen,v < n
 snd:∀ v∈seen,FwM.Comes t a v
 mem:a∈seen
 closed:∀ j u,j < i→seen[j]?=some u→∀ c∈t u,c∈seen
theorem Bfs.start {t:Nat→List Nat} {n a:Nat} (h:a < n):Bfs t n a 0 [a] :=
 ⟨by simp,fun v hv=>by rw [List.mem_singleton.1 hv];exact h,fun v hv=>by rw [List.mem_singleton.1 hv];exact .here,by simp,fun j u hj=>absurd hj (by omega)⟩
theorem Bfs.len {t:Nat→List Nat} {n a i:Nat} {seen:List Nat} (h:Bfs t n a i seen):seen.length≤n:=nodup_len n h.nd h.lt
theorem Bfs.put {t:Nat→List Nat} {n a i c u:Nat} {seen:List Nat} (ht:∀ i,i < n→∀ j∈t i,j < n) (h:Bfs t n a i seen) (hu:u∈seen) (hc:c∈t u) (hn:c∉seen) (hi:i≤seen.length):Bfs t n a i (seen++[c]):=by
 refine ⟨?_,fun v hv=>?_,fun v hv=>?_,by simp [h.mem],fun j v hj hv d hd=>?_⟩
 ·rw [List.nodup_append]
  refine ⟨h.nd,by simp,fun x hx y hy e=>hn ?_⟩
  rw [List.mem_singleton.1 hy] at e
  exact e ▸ hx
 ·rcases List.mem_append.1 hv with hv | hv
  ·exact h.lt v hv
  ·rw [List.mem_singleton.1 hv];exact ht u (h.lt u hu) c hc
 ·rcases List.mem_append.1 hv with hv | hv
  ·exact h.snd v hv
  ·rw [List.mem_singleton.1 hv];exact .step (h.snd u hu) hc
 ·rw [List.getElem?_append_left (by omega)] at hv
  exact List.mem_append.2 (.inl (h.closed j v hj hv d hd))
theorem Bfs.next {t:Nat→List Nat} {n a i u:Nat} {seen:List Nat} (h:Bfs t n a i seen) (hu:seen[i]?=some u) (hall:∀ c∈t u,c∈seen):Bfs t n a (i+1) seen:=by
 refine ⟨h.nd,h.lt,h.snd,h.mem,fun j v hj hv=>?_⟩
 by_cases e:j=i
 ·subst e
  rw [hu] at hv
  cases hv
  exact hall
 ·exact h.closed j v (by omega) hv
theorem Bfs.all {t:Nat→List Nat} {n a:Nat} {seen:List Nat} (h:Bfs t n a seen.length seen) (v:Nat):v∈seen↔FwM.Comes t a v:=by
 refine ⟨h.snd v,fun hc=>?_⟩
 induction hc with
 | here=>exact h.mem
 | step _ hd ih =>
  obtain ⟨j,hj,e⟩:=List.getElem_of_mem ih
  exact h.closed j _ hj (by rw [List.getElem?_eq_getElem hj,e]) _ hd
end Go.Proofs.YtpejpnffcepdlaaGreatDoor.FwB
namespace Go.Proofs.YtpejpnffcepdlaaGreatDoor.FwK
open Go.RowKit Go.Lib SetP IntO TyM TyP TyB ShM ShP ShA ShI FwP FwQ FwR

def I64 (n:Int):Prop:=-9223372036854775808≤n∧n≤9223372036854775807
def NextC:Prop:=∀ (p:Px) (f b:Int) (v:Value) (w:World),PrAt w v p→Tab w→Small p→POk p→I64 f→I64 b →
 Calls Tryz.prog 85 #[v,.int .i64 f,.int .i64 b] w (LstN (nextA p f b) (askB p f b) w)
def PredsC:Prop:=∀ (p:Px) (f b:Int) (v:Value) (w:World),PrAt w v p→Tab w→Small p→POk p→I64 f→I64 b →
 Calls Tryz.prog 23 #[v,.int .i64 f,.int .i64 b] w (LstN (predsA p f b) (askB p f b) w)
def ReachC:Prop:=∀ (p:Px) (f:Int) (v:Value) (w:World),PrAt w v p→Tab w→Small p→POk p→I64 f →
 Calls Tryz.prog 115 #[v,.int .i64 f] w (LstN (reachA p f) (findP p f) w)
def OrderC:Prop:=∀ (p:Px) (f:Int) (v:Value) (w:World),PrAt w v p→Tab w→Small p→POk p→I64 f →
 Calls Tryz.prog 95 #[v,.int .i64 f] w (LstN (orderA p f) (findP p f) w)
theorem NextC.e (h:NextC):∀ (p:Px) (f b:Int) (v:Value) (w:World),PrAt w v p→Tab w→Small p→POk p→I64 f→I64 b→Calls Tryz.prog 85 #[v,.int .i64 f,.int .i64 b] w (LstE (nextA p f b) (askB p f b) w):=fun p f b v w h1 h2 h3 h4 j1 j2=>(h p f b v w h1 h2 h3 h4 j1 j2).mono fun _ _ h=>h.e
theorem PredsC.e (h:PredsC):∀ (p:Px) (f b:Int) (v:Value) (w:World),PrAt w v p→Tab w→Small p→POk p→I64 f→I64 b→Calls Tryz.prog 23 #[v,.int .i64 f,.int .i64 b] w (LstE (predsA p f b) (askB p f b) w):=fun p f b v w h1 h2 h3 h4 j1 j2=>(h p f b v w h1 h2 h3 h4 j1 j2).mono fun _ _ h=>h.e
theorem ReachC.e (h:ReachC):∀ (p:Px) (f:Int) (v:Value) (w:World),PrAt w v p→Tab w→Small p→POk p→I64 f→Calls Tryz.prog 115 #[v,.int .i64 f] w (LstE (reachA p f) (findP p f) w):=fun p f v w h1 h2 h3 h4 j1=>(h p f v w h1 h2 h3 h4 j1).mono fun _ _ h=>h.e
theorem OrderC.e (h:OrderC):∀ (p:Px) (f:Int) (v:Value) (w:World),PrAt w v p→Tab w→Small p→POk p→I64 f→Calls Tryz.prog 95 #[v,.int .i64 f] w (LstE (orderA p f) (findP p f) w):=fun p f v w h1 h2 h3 h4 j1=>(h p f v w h1 h2 h3 h4 j1).mono fun _ _ h=>h.e
end Go.Proofs.YtpejpnffcepdlaaGreatDoor.FwK
namespace Go.Proofs.YtpejpnffcepdlaaGreatDoor.IntG
open Go.RowKit Go.Lib SetP IntO TyM TyP FwQ

theorem int_at {w:World} {ao:Option Addr} {n cap i:Nat} {l:List Int} {c:Int} (h:IntsAt w (.slice ao n cap) l) (hc:l[i]?=some c):∃ b off,ao=some ⟨b,off,none⟩∧w.cell? ⟨b,off+i,none⟩=some (.int .i64 c):=by
 obtain ⟨hi,rfl⟩:=List.getElem?_eq_some_iff.1 hc
 obtain ⟨b,off,rfl,_,h2⟩:=TyP.ints_at h i hi
 exact ⟨b,off,rfl,h2⟩
theorem nat_at {w:World} {ao:Option Addr} {n cap i c:Nat} {l:List Nat} (h:IntsAt w (.slice ao n cap) (ints l)) (hc:l[i]?=some c):∃ b off,ao=some ⟨b,off,none⟩∧w.cell? ⟨b,off+i,none⟩=some (.int .i64 (c:Int)) :=
 int_at h (by rw [nums_get,hc];rfl)
theorem some_at {α:Type} {l:List α} {i:Nat} (h:i < l.length):∃ c,l[i]?=some c:=⟨_,List.getElem?_eq_getElem h⟩
end Go.Proofs.YtpejpnffcepdlaaGreatDoor.IntG
namespace Go.Proofs.YtpejpnffcepdlaaGreatDoor.BlkG
open Go.RowKit Go.Lib SetP IntO TyM TyP ShM ShP Aft FwP FwQ LvM IntG

theorem blk_ins {W:World} {ao:Option Addr} {n cap:Nat} {l:List Bx} (h:BlksAt W (.slice ao n cap) l) {b:Nat} (hb:b < l.length):∃ g off xa xc,ao=some ⟨g,off,none⟩∧(∀ w',Aft W w'→w'.cell? ⟨g,off+b * 5,none⟩=some (.slice xa (insAt l b).length xc))∧InsAt W (.slice xa (insAt l b).length xc) (insAt l b) ∧
  (∀ w',Aft W w'→w'.cell? ⟨g,off+b * 5+1,none⟩=some (.int .u8 (endAt l b).kind))∧(∀ w',Aft W w'→w'.cell? ⟨g,off+b * 5+2,none⟩=some (.int .i64 (endAt l b).a))∧(∀ w',Aft W w'→w'.cell? ⟨g,off+b * 5+3,none⟩=some (.int .i64 (endAt l b).to))∧(∀ w',Aft W w'→w'.cell? ⟨g,off+b * 5+4,none⟩=some (.int .i64 (endAt l b).els)):=by
 obtain ⟨g,off,rfl,hlt,vi,c0,c1,c2,c3,c4,hins⟩:=h.at b hb
 have he:endAt l b=l[b].en:=by unfold endAt;rw [List.getElem?_eq_getElem hb];rfl
 have hi:insAt l b=l[b].ins:=by unfold insAt;rw [List.getElem?_eq_getElem hb];rfl
 obtain ⟨ia,ic,rfl,_⟩:=hins.slice
 rw [he,hi]
 exact ⟨g,off,ia,ic,rfl,later c0,hins,later c1,later c2,later c3,later c4⟩
theorem ins_later {W:World} {ao:Option Addr} {n cap:Nat} {xs:List Ix} (h:InsAt W (.slice ao n cap) xs) {k:Nat} {x:Ix} (hk:xs[k]?=some x):∃ g off aa ac fa fc,ao=some ⟨g,off,none⟩∧(∀ w',Aft W w'→w'.cell? ⟨g,off+k * 7,none⟩=some (.int .u8 x.op))∧(∀ w',Aft W w'→w'.cell? ⟨g,off+k * 7+1,none⟩=some (.int .i64 x.typ))∧(∀ w',Aft W w'→w'.cell? ⟨g,off+k * 7+2,none⟩=some (.int .i64 x.a)) ∧
  (∀ w',Aft W w'→w'.cell? ⟨g,off+k * 7+3,none⟩=some (.int .i64 x.b))∧(∀ w',Aft W w'→w'.cell? ⟨g,off+k * 7+4,none⟩=some (.int .i64 x.n))∧(∀ w',Aft W w'→w'.cell? ⟨g,off+k * 7+5,none⟩=some (.slice aa x.args.length ac))∧(∀ w',Aft W w'→w'.cell? ⟨g,off+k * 7+6,none⟩=some (.slice fa x.frm.length fc)) ∧
  (∀ w',Aft W w'→IntsAt w' (.slice aa x.args.length ac) x.args)∧(∀ w',Aft W w'→IntsAt w' (.slice fa x.frm.length fc) x.frm):=by
 obtain ⟨hi,rfl⟩:=List.getElem?_eq_some_iff.1 hk
 obtain ⟨g,off,rfl,_,ya,yf,z0,z1,z2,z3,z4,z5,z6,hya,hyf⟩:=h.at k hi
 obtain ⟨aa,ac,rfl,_⟩:=ints_slice hya
 obtain ⟨fa,fc,rfl,_⟩:=ints_slice hyf
 exact ⟨g,off,aa,ac,fa,fc,rfl,later z0,later z1,later z2,later z3,later z4,later z5,later z6,fun w' h=>hya.below h.below,fun w' h=>hyf.below h.below⟩
end Go.Proofs.YtpejpnffcepdlaaGreatDoor.BlkG
namespace Go.Proofs.YtpejpnffcepdlaaGreatDoor.DmI
open Go.RowKit Go.Lib SetP IntO TyM TyP TyB TyC ShM ShP ShA ShB ShC ShE Aft FwQ IntG DmM DmX DmN

theorem index_calls (b:Nat) (l:List Nat) (x:Nat) (w:World) (hl:l.length=16) (hc:∀ i,i < l.length→w.cell? ⟨b,i,none⟩=some (.int .u32 (l.getD i 0:Nat))) :
  Calls Tryz.prog 193 #[.slice (some ⟨b,0,none⟩) 16 16,.int .u32 x] w fun e w'=>∃ r:Int,e=.returned (.int .i64 r)∧idxI l x r∧w=w':=by
 have HC:=hid hc
 have HL:=hid hl
 clear hc hl
 go_enter Tryz.func193,Tryz.ntmps193
 go_wp2_with fail
 go_loopg [5,8] 16 (fun gk _ i wr=>∃ k:Nat,k+gk=16∧i=.int .i64 k∧wr=w∧∀ i,i < k→l.getD i 0≠x)
 case atStart=>exact ⟨0,by omega,rfl,rfl,fun i hi=>by omega⟩
 case round =>
  obtain ⟨k,hk,rfl,rfl,hn⟩:=hrel
  have HK:=hid hk
  have HN:=hid hn
  clear hk hn
  by_cases hlt:k < 16
  rotate_left
  ·have hke:k=16:=by have:=HK.out;omega
   subst hke
   have HNO:Hid (idxI l x (-1)):=.inr ⟨rfl,fun i hi=>HN.out i (by have:=HL.out;omega)⟩
   clear HN hlt
   go_wp2
   go_ret
   exact ⟨-1,rfl,HNO.out,rfl⟩
  have c0:=HC.out k (by have:=HL.out;omega)
  have hk2:(k:Int) < 16:=by omega
  by_cases he:l.getD k 0=x
  ·have HM:Hid (idxI l x (k:Int)):=.inl ⟨k,by have:=HL.out;omega,he,rfl⟩
   have e1:((x:Int) == (l.getD k 0:Nat))=true:=by rw [he];simp
   clear HN he
   generalize l.getD k 0=y at *
   go_wp2
   go_ret
   exact ⟨k,rfl,HM.out,rfl⟩
  ·have e1:((x:Int) == (l.getD k 0:Nat))=false:=by
    rw [beq_eq_false_iff_ne]
    intro e;exact he (by omega)
   have HN2:Hid (∀ i,i < k+1→l.getD i 0≠x):=by
    show ∀ i,_
    intro i hi
    by_cases e:i=k
    ·rw [e];exact he
    ·exact HN.out i (by omega)
   clear HN he
   generalize l.getD k 0=y at *
   go_wp2
   go_roundg (gk - 1)
   case measure=>have:=HK.out;omega
   case rel=>exact ⟨k+1,by have:=HK.out;omega,by go_num,rfl,HN2.out⟩

theorem pow_mod {b:Nat} (hb:b < 32):(2:Int) ^ b % 4294967296=((2 ^ b:Nat):Int):=by
 have h:2 ^ b < 2 ^ 32:=Nat.pow_lt_pow_right (by decide) hb
 have e:(2:Int) ^ b=((2 ^ b:Nat):Int):=by rw [Int.natCast_pow];rfl
 rw [e]
 generalize 2 ^ b=n at *
 omega
theorem next_calls (l:List Nat) (b:Nat) (hl:l.length=16) (hbig:∀ b,l.getD b 0 < 4294967296) (hb:b < 16) (w:World) :
  Calls Tryz.prog 161 #[rulV l,.int .i64 b] w fun e w'=>∃ r:Int,e=.returned (.int .i64 r)∧NextIs l b r∧Below w.heap.size w w':=by
 unfold rulV
 have hcs:(uV l).toArray[b]?=some (.int .u32 (l.getD b 0:Nat)):=by rw [List.getElem?_toArray];exact uV_get (by omega)
 obtain ⟨W,hW⟩:∃ W,W=w.alloc (.cells (uV l).toArray 111):=⟨_,rfl⟩
 have k1:W.heap[w.heap.size]?=some (.cells (uV l).toArray 111 (0,0)):=by rw [hW];exact alloc_new _ _
 have l0:=later_cells k1 b _ hcs
 have HI:=hid (fun wx (hx:Aft W wx)=>index_calls w.heap.size l (othN l b) wx hl (fun i hi=>later_cells k1 i _ (by rw [List.getElem?_toArray];exact uV_get hi) wx hx))
 have HW:=hid hW
 have HB:Hid (Below w.heap.size w W):=by show Below _ _ _;rw [hW];exact alloc_below _ _
 have h0:=Aft.refl W
 have HO:Hid (bits .andNot .u32 (l.getD b 0:Nat) ((2:Int) ^ b % 4294967296)=(othN l b:Nat)):=by
  show _=_
  rw [pow_mod (by omega),u32_andNot_nat _ _ (hbig b) (Nat.pow_lt_pow_right (by decide) (by omega:b < 32))]
  rfl
 have HN:=hid (show ∀ r,othN l b=0→r = -1→NextIs l b r from fun r h1 h2=>.inl ⟨h1,h2⟩)
 have HN2:=hid (show ∀ r,othN l b≠0→idxI l (othN l b) r→NextIs l b r from fun r h1 h2=>.inr ⟨h1,h2⟩)
 clear hl hbig hW k1 hcs
 generalize (uV l).toArray=cs at *
 generalize l.getD b 0=x at *
 generalize othN l b=o at *
 go_enter Tryz.func161,Tryz.ntmps161
 go_upto_region 1 with fail
 rw [← HW.out]
 go_quiet (fail)
 obtain ⟨wd,hwd⟩:∃ wd,wd=W.drewN nq:=⟨_,rfl⟩
 rw [← hwd,HO.out]
 have h1:Aft W wd:=by rw [hwd];exact below_drewN (Below.refl _ _) nq
 have HWD:=hid hwd
 clear hwd
 by_cases hz:o=0
 ·have HF:=hid (HN.out (-1) hz rfl)
  have e1:((o:Int) == 0)=true:=by simpa using hz
  clear hz
  go_wp2
  go_ret
  exact ⟨_,rfl,HF.out,h1.out HB.out⟩
 ·have e1:((o:Int) == 0)=false:=by simpa using hz
  have HF:=hid (fun r=>HN2.out r hz)
  clear hz
  go_wp2_with fail
  refine (HI.out wd h1).mono ?_
  rintro e w1 ⟨r,rfl,hr,rfl⟩
  go_wp2
  go_ret
  exact ⟨_,rfl,HF.out r hr,h1.out HB.out⟩

/-! shared -/
theorem shared_calls (l ps:List Nat) (v:Value) (w:World) (hl:l.length=16) (hbig:∀ b,l.getD b 0 < 4294967296) (hv:IntsAt w v (ints ps)) (hps:∀ k∈ps,k < 16) :
  Calls Tryz.prog 145 #[rulV l,v] w fun e w'=>e=.returned (.int .u32 (shN l ps:Nat))∧Below w.heap.size w w':=by
 unfold rulV
 obtain ⟨W,hW⟩:∃ W,W=w.alloc (.cells (uV l).toArray 111):=⟨_,rfl⟩
 have k1:W.heap[w.heap.size]?=some (.cells (uV l).toArray 111 (0,0)):=by rw [hW];exact alloc_new _ _
 have hbW:Below w.heap.size w W:=by rw [hW];exact alloc_below _ _
 have HC:=hid (fun i (hi:i < 16)=>later_cells k1 i _ (by rw [List.getElem?_toArray];exact uV_get (by omega):(uV l).toArray[i]?=some (.int .u32 (l.getD i 0:Nat))) W (Aft.refl W))
 have HL:=hid (hv.below hbW)
 obtain ⟨ao,cap,rfl,hlen⟩:=ints_slice hv
 rw [ints_length] at hlen ⊢
 have HW:=hid hW
 have HB:=hid hbW
 have HS:=hid (fun k b (h:ps[k]?=some b)=>show (ps.take (k+1)).foldl (fun acc k=>if l.getD k 0=0 then acc else acc &&& l.getD k 0) 4294967295=(if l.getD b 0=0 then shN l (ps.take k) else shN l (ps.take k) &&& l.getD b 0) by
  rw [List.take_add_one,h,List.foldl_append];rfl)
 have HLT:=hid (fun k=>sh_lt l (ps.take k))
 have HPS:=hid hps
 have HBIG:=hid hbig
 have HLEN:Hid ((ints ps).length=ps.length):=ints_length ps
 clear hl hbig hW hbW k1 hv hps
 generalize (uV l).toArray=cs at *
 go_enter Tryz.func145,Tryz.ntmps145
 go_wp2_with fail
 rw [← HW.out]
 go_loopg [5,7,10] ps.length (fun gk acc _ i wr=>∃ k:Nat,k+gk=ps.length∧i=.int .i64 k∧acc=.int .u32 (shN l (ps.take k):Nat)∧wr=W)
 case atStart=>exact ⟨0,by omega,rfl,by rw [List.take_zero];rfl,rfl⟩
 case round =>
  obtain ⟨k,hk,rfl,rfl,rfl⟩:=hrel
  have HK:=hid hk
  clear hk
  by_cases hlt:k < ps.length
  rotate_left
  ·have hke:k=ps.length:=by have:=HK.out;omega
   subst hke
   clear HS HLT
   rw [List.take_length]
   go_wp2
   go_ret
   exact ⟨rfl,HB.out⟩
  obtain ⟨b,hb⟩:∃ b,ps[k]?=some b:=⟨ps[k],List.getElem?_eq_getElem hlt⟩
  have hb16:=HPS.out b (List.mem_of_getElem? hb)
  have c1:=HC.out b hb16
  have HS1:=hid (HS.out k b hb)
  have hbi:=HBIG.out b
  have hlt2:=HLT.out k
  have hk2:(k:Int) < ps.length:=by omega
  have hb2:(b:Int) < 16:=by omega
  obtain ⟨g,off,rfl,c0⟩:=nat_at HL.out hb
  have HND:=hid (u32_and_nat (shN l (ps.take k)) (l.getD b 0) hlt2 hbi)
  have HX:Hid (shN l (ps.take (k+1))=if l.getD b 0=0 then shN l (ps.take k) else shN l (ps.take k) &&& l.getD b 0):=HS1.out
  clear HS HLT HS1 hb hb16 hlt2 hbi
  by_cases hz:l.getD b 0=0
  ·rw [if_pos hz] at HX
   have e1:(((l.getD b 0:Nat):Int) != 0)=false:=by rw [hz];rfl
   clear hz HND
   generalize hzz:shN l (ps.take k)=z at *
   have HZ:=hid hzz
   clear hzz
   generalize l.getD b 0=y at *
   go_wp2
   go_roundg (gk - 1)
   case measure=>have:=HK.out;omega
   case rel=>exact ⟨k+1,by have:=HK.out;omega,by go_num,by rw [HX.out],rfl⟩
  ·rw [if_neg hz] at HX
   have e1:(((l.getD b 0:Nat):Int) != 0)=true:=by
    rw [bne_iff_ne];intro e;exact hz (by omega)
   clear hz
   generalize hzz:shN l (ps.take k)=z at *
   have HZ:=hid hzz
   clear hzz
   generalize l.getD b 0=y at *
   go_wp2
   go_roundg (gk - 1)
   case measure=>have:=HK.out;omega
   case rel=>exact ⟨k+1,by have:=HK.out;omega,by go_num,by rw [HX.out,HND.out],rfl⟩
end Go.Proofs.YtpejpnffcepdlaaGreatDoor.DmI
namespace Go.Proofs.YtpejpnffcepdlaaGreatDoor.DmR
open Go.RowKit Go.Lib SetP IntO TyM TyP TyB TyC ShM ShP ShA ShB ShC ShE Aft FwM FwC FwP FwQ IntG FdM DmM DmX DmN DmI

theorem uV_set (l:List Nat) (i x:Nat):(uV l).toArray.setIfInBounds i (.int .u32 (x:Int))=(uV (l.set i x)).toArray:=by
 rw [List.setIfInBounds_toArray]
 unfold uV
 rw [List.map_set]
theorem uV_fill:(uV (List.replicate 16 0)).toArray=#[.int .u32 0,.int .u32 0,.int .u32 0,.int .u32 0,.int .u32 0,.int .u32 0,.int .u32 0,.int .u32 0,.int .u32 0,.int .u32 0,.int .u32 0,.int .u32 0,.int .u32 0,.int .u32 0,.int .u32 0,.int .u32 0]:=rfl
theorem underR:Tryz.prog.underlying 111=some (.array 16 109):=by kernel_rfl
theorem infoR {l:List Nat} (h:l.length=16):(Tryz.prog.info? 111).map (·.size)=some (uV l).length:=by
 rw [uV_length,h]
 kernel_rfl
structure Rul (W:World) (p:Nat) (l:List Nat) (w:World):Prop where
 aft:Aft W w
 row:w.heap[p]?=some (.cells (uV l).toArray 111 (0,0))
 old:W.heap.size≤p
 len:l.length=16
theorem Rul.go {W:World} {p:Nat} {l:List Nat} {w w' : World} (h:Rul W p l w) (hb:Below w.heap.size w w'):Rul W p l w' :=
 ⟨h.aft.go hb,(hb.block p (Array.getElem?_eq_some_iff.1 h.row).1).trans h.row,h.old,h.len⟩
theorem Rul.cell {W:World} {p:Nat} {l:List Nat} {w:World} (h:Rul W p l w) {i:Nat} (hi:i < 16):w.cell? ⟨p,i,none⟩=some (.int .u32 (l.getD i 0:Nat)) :=
 later_cells h.row i _ (by rw [List.getElem?_toArray];exact uV_get (by rw [h.len];exact hi)) w (Aft.refl w)
theorem Rul.set {W:World} {p:Nat} {l:List Nat} {w:World} (h:Rul W p l w) (i x:Nat):Rul W p (l.set i x) (w.setCell ⟨p,i,none⟩ (.int .u32 (x:Int))):=by
 refine ⟨h.aft.set h.old _,?_,h.old,by rw [List.length_set];exact h.len⟩
 have:=ShTB.set_heap' (i:=i) (.int .u32 (x:Int)) h.row
 rw [uV_set] at this
 exact this
theorem Rul.range {W:World} {p:Nat} {l:List Nat} {w:World} (h:Rul W p l w) (w' : World) (ha:Aft w w'):w'.rangeAt p 0 (uV l):=fun j v hj=>by
 have:=later_cells h.row j v (by rw [List.getElem?_toArray];exact hj) w' ha
 rw [Nat.zero_add]
 exact this
theorem Rul.load {W:World} {p:Nat} {l:List Nat} {w:World} (h:Rul W p l w) (w' : World) (ha:Aft w w'):(Instr.loadAt 111 (.pointer (some ⟨p,0,none⟩))).run Tryz.prog w'=.ok (rulV l) w':=by
 refine run_loadAt_mid w' p 0 111 (uV l) _ (fun j v hj=>?_) underR rfl (infoR h.len)
 have:=later_cells h.row j v (by rw [List.getElem?_toArray];exact hj) w' ha
 rw [Nat.zero_add]
 exact this
theorem Rul.free {W:World} {p:Nat} {l:List Nat} {w:World} (h:Rul W p l w) (i:Nat):w.frozen? ⟨p,i,none⟩=false:=(ShTB.cells_heap h.row).2 i

theorem results_cell {fn:Func} {p:Tmp} {ty:TypeId} (h:fn.results=#[.cell p ty]) (tmps:Array Value) (P:Program) (w:World) :
  (results fn tmps).run P w=((asAddr (tmps.getD p undef)).run P w).andThen fun a w₁=>(loadVar ty a).run P w₁:=by
 simp only [results,h]
 simp [Sem.run_bind,Result.andThen]
theorem there_of {w:World} {p:Nat} {cs:Array Value} {ty:TypeId} (h:w.heap[p]?=some (.cells cs ty (0,0))) {n:Nat} (hn:cs.size=n):w.there p 0 n:=by
 intro j hj
 refine ⟨?_,(ShTB.cells_heap h).2 _⟩
 unfold World.cell?
 rw [h]
 show (cs[0+j]?).isSome=true
 rw [Nat.zero_add,Array.getElem?_eq_getElem (by omega)]
 rfl
theorem below_setCells {B g:Nat} (hg:B≤g):∀ (vs:List Value) (o:Nat) {w w1:World},Below B w w1→Below B w (w1.setCells g o vs)
 | [],_,_,_,h=>h
 | v :: vs,o,_,_,h=>below_setCells hg vs (o+1) (h.setCell (p:=⟨g,o,none⟩) hg v)
theorem one_cells (l:List Nat):(uV l).toArray.all (·.oneCell')=true:=all_oneCell_toArray (by
 intro v hv
 unfold uV at hv
 obtain ⟨x,_,rfl⟩:=List.mem_map.1 hv
 rfl)
theorem ints_rest {w:World} {x:Int} {s:List Int} {ao:Option Addr} {n cap:Nat} (h:IntsAt w (.slice ao n cap) (x :: s)) :
  ∃ ao2 cap2,IntsAt w (.slice ao2 s.length cap2) s∧∀ w',(Instr.slice 29 (.slice ao n cap) (some (.int .i64 1)) none none).run Tryz.prog w'=.ok (.slice ao2 s.length cap2) w':=by
 obtain ⟨ao2,cap2,he,hl,hm,hz,hcap⟩:=h
 simp at he
 obtain ⟨rfl,rfl,rfl⟩:=he
 simp at hl hcap
 obtain ⟨b,off,rfl,hb,hc⟩:=hm (by simp)
 have hrun:∀ w',(Instr.slice 29 (.slice (some ⟨b,off,none⟩) (s.length+1) cap) (some (.int .i64 1)) none none).run Tryz.prog w'=.ok (sliced (some ⟨b,off,none⟩) 1 (s.length+1) cap 1) w':=by
  intro w'
  have hsz:(sizeOf (Tryz.prog.elem 29)).run Tryz.prog w'=.ok 1 w':=by kernel_rfl
  rw [run_slice_l (P:=Tryz.prog) (w:=w') 29 (some ⟨b,off,none⟩) (s.length+1) cap (by kernel_rfl) .i64 1 (by omega) (by omega),hsz]
  rfl
 unfold sliced at hrun
 by_cases hcx:cap=1
 ·have:s=[]:=List.eq_nil_of_length_eq_zero (by omega)
  subst this
  simp only [hcx,if_true] at hrun
  exact ⟨some ⟨b,off,none⟩,cap - 1,⟨_,_,rfl,by simp,fun h=>by simp at h,(fun h=>by cases h),by simp⟩,fun w'=>by rw [hcx];exact hrun w'⟩
 ·rw [if_neg hcx] at hrun
  refine ⟨some ⟨b,off+1,none⟩,cap - 1,⟨_,_,rfl,by omega,fun _=>⟨b,off+1,rfl,hb,fun i hi=>?_⟩,(fun h=>by cases h),by omega⟩,fun w'=>?_⟩
  ·have c0:=hc (i+1) (by simp;omega)
   simp only [List.getElem_cons_succ] at c0
   rw [show off+1+i=off+(i+1) by omega]
   exact c0
  ·have:=hrun w'
   simpa [Addr.add] using this

theorem rule_calls (t:Nat→List Nat) (n:Nat) (ord:List Nat) (pr:Nat→List Nat) (he:Env t n ord pr) (ov:Value) (pvs:List Value) (w:World) (ho:IntsAt w ov (ints ord)) (hhd:∃ r,ord=0 :: r) (hlen:ord.length≤16) (hnd:ord.Nodup)
  (hp:∀ b∈ord,∃ u,pvs[b]?=some u∧IntsAt w u (ints (pr b))) :
  Calls Tryz.prog 96 #[ov,.agg pvs.toArray] w fun e w'=>∃ l,e=.returned (rulV l)∧Inv t ord pr l∧Still ord pr l∧Below w.heap.size w w':=by
 obtain ⟨ao,cap,rfl,hmx⟩:=ints_slice ho
 rw [ints_length] at hmx ⊢
 obtain ⟨W1,hW1⟩:∃ W1,W1=(w.alloc (.cells pvs.toArray 154)).alloc (.cells (uV (List.replicate 16 0)).toArray 111):=⟨_,rfl⟩
 obtain ⟨W,hW⟩:∃ W,W=W1.alloc (.cells (uV (List.replicate 16 0)).toArray 111):=⟨_,rfl⟩
 have hb1:Below w.heap.size w W1:=by rw [hW1];exact (alloc_below _ _).alloc (by simp) _
 have s1:W1.heap.size=w.heap.size+2:=by rw [hW1];simp
 have k0:W1.heap[w.heap.size]?=some (.cells pvs.toArray 154 (0,0)):=by
  rw [hW1,Below.heap_alloc _ _ _ (by simp)];exact alloc_new _ _
 have k1:W1.heap[w.heap.size+1]?=some (.cells (uV (List.replicate 16 0)).toArray 111 (0,0)):=by
  rw [hW1]
  have:=alloc_new (w.alloc (.cells pvs.toArray 154)) (.cells (uV (List.replicate 16 0)).toArray 111)
  rw [World.size_alloc] at this
  exact this
 have hr0:Rul W1 (w.heap.size+1+1) (List.replicate 16 0) W:=by
  refine ⟨by rw [hW];exact (Aft.refl _).alloc _,?_,by omega,rfl⟩
  rw [hW,show w.heap.size+1+1=W1.heap.size by omega]
  exact alloc_new _ _
 have HO:=hid (ho.below hb1)
 have HB1:=hid hb1
 have HF:Hid (W=((w.alloc (.cells pvs.toArray 154)).alloc (.cells #[.int .u32 0,.int .u32 0,.int .u32 0,.int .u32 0,.int .u32 0,.int .u32 0,.int .u32 0,.int .u32 0,.int .u32 0,.int .u32 0,.int .u32 0,.int .u32 0,.int .u32 0,.int .u32 0,.int .u32 0,.int .u32 0] 111)).alloc (.cells #[.int .u32 0,.int .u32 0,.int .u32 0,.int .u32 0,.int .u32 0,.int .u32 0,.int .u32 0,.int .u32 0,.int .u32 0,.int .u32 0,.int .u32 0,.int .u32 0,.int .u32 0,.int .u32 0,.int .u32 0,.int .u32 0] 111)):=by
  show _=_
  rw [hW,hW1,uV_fill]
 clear ho hb1 hW hW1
 generalize hpa:pvs.toArray=pa at *
 have HPA:=hid hpa
 clear hpa
 go_enter Tryz.func96,Tryz.ntmps96
 go_wp2_with fail
 go_step3
 go_wp2_with fail
 rw [← HF.out]
 go_loopg [7,13] ord.length (fun gk _ i wr=>∃ k:Nat,k+gk=ord.length∧i=.int .i64 k∧Rul W1 (w.heap.size+1+1) (fillN (ord.take k)) wr)
 case atStart=>exact ⟨0,by omega,rfl,hr0⟩
 case round =>
  obtain ⟨k,hk,rfl,hr⟩:=hrel
  have HK:=hid hk
  have HR:=hid hr
  clear hk hr
  by_cases hlt:k < ord.length
  ·obtain ⟨b,hb⟩:=some_at hlt
   have hb16:b < 16:=by have:=he.mem_lt (List.mem_of_getElem? hb);have:=he.n16;omega
   obtain ⟨g,off,rfl,c0⟩:=nat_at (HO.out.below HR.out.aft) hb
   have c1:=HR.out.cell hb16
   have f1:=HR.out.free b
   have hkn:(k:Int) < ord.length:=by omega
   have hbn:(b:Int) < 16:=by omega
   have HN:Hid (Rul W1 (w.heap.size+1+1) (fillN (ord.take (k+1))) (wr.setCell ⟨w.heap.size+1+1,b,none⟩ (.int .u32 4294967295))):=by
    show Rul _ _ _ _
    rw [fill_take ord hb]
    exact HR.out.set b 4294967295
   clear hb
   generalize (fillN (ord.take k)).getD b 0=x at *
   go_wp2
   go_roundg (gk - 1)
   case measure=>have:=HK.out;omega
   case rel=>exact ⟨k+1,by have:=HK.out;omega,by go_num,HN.out⟩
  obtain rfl:k=ord.length:=by have:=HK.out;omega
  have HR1:=hid (List.take_length (l:=ord) ▸ HR.out)
  have HR2:Hid (Rul W1 (w.heap.size+1+1) ((fillN ord).set 0 1) (wr.setCell ⟨w.heap.size+1+1,0,none⟩ (.int .u32 1))):=HR1.out.set 0 1
  have c1:=HR1.out.cell (i:=0) (by decide)
  have f1:=HR1.out.free 0
  have hi0:=hid (inv_begin he)
  obtain ⟨rest,hrest⟩:=hhd
  have HOR:Hid (IntsAt W1 (.slice ao (rest.length+1) cap) (0 :: ints rest)):=by
   have:=HO.out
   rw [hrest,ints_length] at this
   exact this
  have hol:ord.length=rest.length+1:=by rw [hrest];rfl
  obtain ⟨ao2,cap2,hl2,hrun⟩:=ints_rest HOR.out
  rw [ints_length] at hl2 hrun
  have HL2:=hid hl2
  have HNZ:Hid (∀ b∈rest,b≠0):=by
   show ∀ b∈rest,_
   rintro b hb rfl
   rw [hrest] at hnd
   exact (List.nodup_cons.1 hnd).1 hb
  have HREST:=hid hrest
  have hrl:rest.length≤16:=by omega
  clear HR HK hlt hl2 HOR hrest
  generalize (fillN ord).getD 0 0=x at *
  rw [hol] at *
  go_wp2_with fail
  go_step3
  go_wp2_with fail
  obtain ⟨W2,hW2⟩:∃ W2,W2=wr.setCell ⟨w.heap.size+1+1,0,none⟩ (.int .u32 1):=⟨_,rfl⟩
  rw [← hW2] at HR2 ⊢
  clear hW2
  go_loopg [24] ((fillN ord).set 0 1).sum (fun gk _ wr=>∃ L,L.sum=gk∧Rul W1 (w.heap.size+1+1) L wr∧Inv t ord pr L)
  case atStart=>exact ⟨_,rfl,HR2.out,hi0.out⟩
  case round =>
   obtain ⟨L,hL,hr,hinv⟩:=hrel
   obtain ⟨gko,hgko⟩:∃ g,g=gk:=⟨_,rfl⟩
   obtain ⟨wo,hwo⟩:∃ wo:World,wo=wr:=⟨wr,rfl⟩
   subst hgko
   subst hwo
   have HL:=hid hL
   have HRO:=hid hr
   have HINV:=hid hinv
   clear hL hr hinv
   go_wp2_with fail
   go_loopg [9,10,24] rest.length (fun gk _ _ i wr=>∃ k:Nat,k+gk=rest.length∧i=.int .i64 k∧Rul W1 (w.heap.size+1+1) L wr∧∀ j b,j < k→rest[j]?=some b→nwN L (pr b) b=L.getD b 0)
   case atStart=>exact ⟨0,by omega,rfl,HRO.out,fun j b hj=>by omega⟩
   case round =>
    obtain ⟨k,hk,rfl,hr,hst⟩:=hrel
    have HK:=hid hk
    have HR:=hid hr
    have HST:=hid hst
    have h0:=Aft.refl wr
    clear hk hr hst
    by_cases hlt:k < rest.length
    ·obtain ⟨b,hb⟩:=some_at hlt
     have hmo:b∈ord:=by rw [HREST.out];exact List.mem_cons_of_mem _ (List.mem_of_getElem? hb)
     have hb16:b < 16:=by have:=he.mem_lt hmo;have:=he.n16;omega
     obtain ⟨g,off,rfl,c0⟩:=nat_at (HL2.out.below HR.out.aft) hb
     obtain ⟨u,hu,hui⟩:=hp b hmo
     obtain ⟨ua,uc,rfl,hul⟩:=ints_slice hui
     rw [ints_length] at *
     have l1:=fun w' (ha:Aft wr w')=>later_cells k0 b _ (by rw [← HPA.out,List.getElem?_toArray];exact hu:pa[b]?=some (.slice ua (pr b).length uc)) w' (HR.out.aft.trans ha)
     have l2:=fun w' (ha:Aft wr w')=>(HR.out.go ha).cell hb16
     have f1:=HR.out.free b
     have HRR:=hid HR.out.range
     have hur:=underR
     have hir:=infoR HR.out.len
     have HSH:=hid (fun wx (hx:Aft wr wx)=>show Calls Tryz.prog 145 #[.agg (uV L).toArray,.slice ua (pr b).length uc] wx _ from shared_calls L (pr b) _ wx HRO.out.len HINV.out.big (hui.below ((HR.out.aft.trans hx).out HB1.out)) (fun q hq=>by have:=(he.prd b hmo q).1 hq;have:=he.n16;omega))
     have HNW:Hid (bits .or .u32 (shN L (pr b):Nat) (IntKind.u32.wrap (2 ^ b))=(nwN L (pr b) b:Nat)):=by
      show _=_
      rw [IntKind.wrap_u32',pow_mod (by omega:b < 32),u32_or_nat _ _ (sh_lt _ _) (Nat.pow_lt_pow_right (by decide) (by omega:b < 32))]
      rfl
     have hkn:(k:Int) < rest.length:=by omega
     have hbn:(b:Int) < 16:=by omega
     have HB:=hid hb
     have HU:=hid hui
     clear hb hu hui hmo
     go_upto_region 11 with fail
     go_cut [10] (fun v wc=>v=.int .u32 (nwN L (pr b) b:Nat)∧Rul W1 (w.heap.size+1+1) L wc)
     case first =>
      go_region_held3 (fun w'=>w'.rangeAt (w.heap.size+1+1) 0 (uV L)∧Aft wr w')
       (first | exact ⟨HRR.out _ (h0.drew.go hb3),h0.drew.go hb3⟩ | exact ⟨HRR.out _ h0.drew,h0.drew⟩ | exact ⟨HRR.out _ h0,h0⟩)
       ((go_at_call 145;with_reducible refine (HSH.out _ h0.drew).mono ?_;rintro e w3 ⟨rfl,hb3⟩))
      have HRL:=hid ((HR.out.go (h0.drew.go hb3)))
      go_wp2_with fail
      go_meet
      case rel=>exact ⟨by rw [HNW.out],HRL.out⟩
     case rest =>
      obtain ⟨rfl,hrc⟩:=hcut
      clear l2
      have l2:=fun w' (ha:Aft wc w')=>(hrc.go ha).cell hb16
      have f2:=hrc.free b
      have HRC:=hid hrc
      have hmo:b∈ord:=by rw [HREST.out];exact List.mem_cons_of_mem _ (List.mem_of_getElem? HB.out)
      have hnd:b≠0:=HNZ.out b (List.mem_of_getElem? HB.out)
      by_cases hn:nwN L (pr b) b=L.getD b 0
      ·have e1:(((nwN L (pr b) b:Nat):Int) != (L.getD b 0:Nat))=false:=by rw [hn];simp
       have HN:Hid (∀ j c,j < k+1→rest[j]?=some c→nwN L (pr c) c=L.getD c 0):=by
        show ∀ j c,_
        intro j c hj hc
        by_cases e:j=k
        ·subst e
         have:b=c:=by have:=HB.out;rw [hc] at this;exact (Option.some.inj this).symm
         rw [← this];exact hn
        ·exact HST.out j c (by omega) hc
       clear hn HST HB hmo hnd HNW HSH HRR hur hir
       generalize L.getD b 0=y at *
       generalize nwN L (pr b) b=z at *
       have h1:=Aft.refl wc
       go_wp2
       go_roundg (gk - 1)
       case measure=>have:=HK.out;omega
       case rel=>exact ⟨k+1,by have:=HK.out;omega,by go_num,HRC.out,HN.out⟩
      ·have e1:(((nwN L (pr b) b:Nat):Int) != (L.getD b 0:Nat))=true:=by
        rw [bne_iff_ne];intro e;exact hn (by omega)
       have HS1:=hid (HINV.out.step he hmo hnd)
       have HS2:=hid (HINV.out.less he hmo hnd hn)
       have HS3:=hid (HRC.out.set b (nwN L (pr b) b))
       clear hn HST HB hmo hnd HNW HSH HRR hur hir
       generalize L.getD b 0=y at *
       generalize hz:nwN L (pr b) b=z at *
       have HZ:=hid hz
       clear hz
       have h1:=Aft.refl wc
       go_wp2
       go_roundg (L.set b z).sum
       case measure=>have:=HS2.out;have:=HL.out;omega
       case rel=>exact ⟨_,rfl,HS3.out,HS1.out⟩
    ·obtain rfl:k=rest.length:=by have:=HK.out;omega
     have HSTILL:Hid (Still ord pr L):=by
      show ∀ b∈ord,_
      intro b hb hne
      rw [HREST.out] at hb
      rcases List.mem_cons.1 hb with h | h
      ·exact absurd h hne
      ·obtain ⟨j,hj,e⟩:=List.getElem_of_mem h
       exact HST.out j b hj (by rw [List.getElem?_eq_getElem hj,e])
     have HRG:=hid (HR.out.range wr h0)
     have HIN:=hid (infoR HR.out.len)
     have HUR:=hid underR
     have hth:wr.there (w.heap.size+1) 0 (uV L).toArray.size:=there_of (later_heap k1 wr HR.out.aft) (by simp [uV_length,HR.out.len])
     have HTH:=hid hth
     have HTL:=hid (by simpa using hth:wr.there (w.heap.size+1) 0 (uV L).length)
     have HI2:Hid ((Tryz.prog.info? 111).map (·.size)=some (uV L).toArray.size):=by
      show _=_
      rw [infoR HR.out.len];simp
     have HBE:=hid (below_setCells (g:=w.heap.size+1) (by omega) (uV L) 0 (HR.out.aft.out HB1.out))
     have HINV2:=hid HINV.out
     clear HST HK hth
     go_upto_region 15 with fail
     go_wp2_with (first | refine wpList_load_mid rfl 111 _ rfl (w.heap.size+1+1) 0 rfl (uV L) _ HRG.out HUR.out rfl HIN.out ?_ | refine wpList_store_mid rfl 111 _ _ rfl (w.heap.size+1) 0 (uV L).toArray rfl rfl HTH.out HI2.out (one_cells L) ?_)
     have hld:(loadVar 111 ⟨w.heap.size+1,0,none⟩).run Tryz.prog (wr.setCells (w.heap.size+1) 0 (uV L))=.ok (rulV L) (wr.setCells (w.heap.size+1) 0 (uV L)) :=
      run_loadVar_mid _ _ _ _ (uV L) _ (World.rangeAt_setCells_same wr (w.heap.size+1) 0 (uV L) HTL.out) HUR.out rfl HIN.out
     simp only [Act.put,List.setIfInBounds_toArray,List.set_cons_zero,List.set_cons_succ]
     rw [Exit.noGoto_ret]
     refine bodyPost_ret (v:=rulV L) ?_ rfl ⟨L,rfl,HINV2.out,HSTILL.out,HBE.out⟩
     rw [results_cell rfl]
     simp [asAddr,Result.andThen,hld]
end Go.Proofs.YtpejpnffcepdlaaGreatDoor.DmR
namespace Go.Proofs.YtpejpnffcepdlaaGreatDoor.ShJ
open Go.RowKit Go.Lib SetP IntO TyM TyP TyB TyC ShM ShP ShA ShB ShC ShE ShQ ShF ShG ShH ShI

theorem regsP_calls (p:Px) (f:Int) (v:Value) (w:World) (hp:PrAt w v p) (htab:Tab w) (hs:Small p) (hok:POk p) :
  Calls Tryz.prog 84 #[v,.int .i64 f] w (TwoR (if findP p f=0 then (cntP p f:Int) else 0) (findP p f) w):=by
 have hp0:=hp
 obtain ⟨vt,vf,rfl,ht,hf⟩:=hp
 have hb0:=alloc_below w (.cells #[vt,vf] 27)
 have HC:=hid (find_calls p f _ _ (hp0.below hb0) (htab.on hb0) hs hok)
 have HB0:=hid hb0
 by_cases hz:findP p f=0
 rotate_left
 ·rw [if_neg hz]
  have e0:(findP p f != 0)=true:=by simpa using hz
  obtain ⟨ta,tc,rfl⟩:=ht.slice
  obtain ⟨fa,fc,rfl,hfl⟩:=hf.slice
  clear ht hf htab hs hok hp0 hb0
  generalize findP p f=fe at *
  generalize p.types.length=n1 at *
  generalize p.funcs.length=n2 at *
  go_enter Tryz.func84,Tryz.ntmps84
  go_wp2_with fail
  refine HC.out.mono ?_
  rintro e w1 ⟨rfl,hb1⟩
  have hbe:=HB0.out.trans (hb1.mono HB0.out.size)
  clear HC hb1 hz
  go_wp2
  go_ret2
  exact ⟨rfl,hbe⟩
 rw [if_pos hz]
 rw [hz] at HC ⊢
 obtain ⟨k,x,h1⟩:=has1 hz
 rw [cnt_at h1]
 obtain ⟨fb,foff,fcap,vb,rfl,hfb,c0,c1,hbl⟩:=fn_at hf h1
 have hle:parOf p.types x.sig+manyB x.blocks≤1000000:=by
  have:=par_le hs.parts h1.sig0 h1.sig1
  have:=h1.many
  omega
 have HR:=hid (fun wx (hx:Below w.heap.size w wx)=>regs_calls p.types x vt (.slice (some ⟨fb,foff,none⟩) p.funcs.length fcap) vb wx (ht.below hx) ⟨_,_,_,rfl⟩ h1.sig0 h1.sig1 (hbl.below blkStays hx) hle)
 obtain ⟨ta,tc,rfl⟩:=ht.slice
 obtain ⟨ba,bc,rfl,_⟩:=hbl.slice
 have hkl:(k:Int) < p.funcs.length:=by have:=h1.lt;omega
 have hk0:(0:Int)≤k:=by omega
 have hke:=h1.eq
 have HLT:=hid hfb
 have HC0:=hid c0
 have HC1:=hid c1
 clear ht hf htab hs hok hp0 hb0 hz hbl hle h1 c0 c1
 subst hke
 generalize parOf p.types x.sig+manyB x.blocks=cnt at *
 obtain ⟨sg,bl⟩:=x
 simp only at *
 generalize p.types.length=n1 at *
 generalize p.funcs.length=n2 at *
 generalize bl.length=n4 at *
 go_enter Tryz.func84,Tryz.ntmps84
 go_wp2_with fail
 refine HC.out.mono ?_
 rintro e w3 ⟨rfl,hb1⟩
 have hbe:=HB0.out.trans (hb1.mono HB0.out.size)
 obtain ⟨f1,_,s1,_⟩:=copyF (alloc_new _ _) hb1 (by simp only [World.size_alloc];omega)
 have p0:=f1 0 (by simp);have p1:=f1 1 (by simp)
 simp only [List.getElem_toArray,List.getElem_cons_succ,List.getElem_cons_zero] at p0 p1
 have d0:=(hbe.cell (p:=⟨fb,foff+k * 2,none⟩) HLT.out).trans HC0.out
 have d1:=(hbe.cell (p:=⟨fb,foff+k * 2+1,none⟩) HLT.out).trans HC1.out
 have s2:=Nat.lt_of_lt_of_le HLT.out hbe.size
 clear HC hb1 f1
 have HBE:=hid hbe
 have HBd:Hid (Below w.heap.size w w3.drew):=hbe.drew
 clear hbe
 go_wp2_with fail
 have HOS:=hid (old_start w3)
 generalize hn3:w3.heap.size=n3 at *
 have HN3:=hid hn3
 clear hn3
 go_region_held3 (fun w'=>n3≤w'.heap.size∧∀ b o,b < n3→w'.cell? ⟨b,o,none⟩=w3.cell? ⟨b,o,none⟩)
  (first | with_reducible exact HOS.out | with_reducible exact old_call (by assumption) (by assumption))
  (first | (go_at_call 42;(with_reducible refine (HR.out w3.drew HBd.out).mono ?_);rintro e w4 ⟨rfl,hb4⟩))
 all_goals
  have hbe:=HBd.out.trans (hb4.mono HBd.out.size)
  go_wp2
  go_ret2
  exact ⟨rfl,hbe⟩
end Go.Proofs.YtpejpnffcepdlaaGreatDoor.ShJ
namespace Go.Proofs.YtpejpnffcepdlaaGreatDoor.FkN
open Go.RowKit Go.Lib SetP IntO TyM TyP TyB TyC ShM ShN ShP ShA ShB ShC ShE ShH ShI ShJ Aft FwM FwC FwP FwQ FwR FwK

def Kinds (l:List Bx):Prop:=∀ i,i < l.length→(endAt l i).kind=1∨(endAt l i).kind=2∨(endAt l i).kind=3
theorem kinds_of {p:Px} {f:Fx} (h:chkP p=0) (ho:POk p) (hf:f∈p.funcs):Kinds f.blocks:=by
 unfold chkP at h
 split at h
 ·rename_i hc;exact absurd h hc
 split at h
 ·exact absurd h (by decide)
 split at h
 ·rename_i hall
  have hmf:=List.all_eq_true.1 hall f hf
  unfold mayF at hmf
  split at hmf
  ·cases hmf
  split at hmf
  ·cases hmf
  split at hmf
  ·cases hmf
  intro i hi
  have hm:f.blocks[i]∈f.blocks:=List.getElem_mem hi
  have hbb:=List.all_eq_true.1 hmf _ hm
  unfold mayBl at hbb
  simp only [Bool.and_eq_true] at hbb
  have he:=hbb.1
  rw [mayE_eq (ho f hf _ hm).1.1] at he
  have hea:endAt f.blocks i=(f.blocks[i]).en:=by unfold endAt;rw [List.getElem?_eq_getElem hi];rfl
  rw [hea]
  unfold mayER at he
  split at he
  ·exact .inl ‹_›
  split at he
  ·exact .inr (.inl ‹_›)
  split at he
  ·exact .inr (.inr ‹_›)
  ·cases he
 ·exact absurd h (by decide)
theorem kinds_fn {p:Px} {f:Int} (ho:POk p) (h:findP p f=0):Kinds (blsP p f):=by
 obtain ⟨k,x,h1⟩:=has1 h
 rw [fn_blocks h1]
 exact kinds_of (find_zero h).1 ho (List.mem_of_getElem? h1.at_)

def LstRO (l:List Int) (w:World) (e:Ending) (w' : World):Prop:=∃ u,e=.returned u∧w'.ownsRow w.heap.size 3 1 u l.length (intVals l)∧Below w.heap.size w w'
theorem next_own (x:Ex) (ia:Option Addr) (im ic:Nat) (w:World) (hk:x.kind=1∨x.kind=2∨x.kind=3) :
  Calls Tryz.prog 60 #[.agg #[.slice ia im ic,.int .u8 x.kind,.int .i64 x.a,.int .i64 x.to,.int .i64 x.els]] w (LstRO (toE x) w):=by
 obtain ⟨kd,a,tt,els⟩:=x
 have HD:Hid (toE ⟨kd,a,tt,els⟩=if kd=1∨(kd=2∧tt=els) then [tt] else if kd=2 then [tt,els] else []):=rfl
 generalize toE ⟨kd,a,tt,els⟩=ans at *
 rcases hk with hk | hk | hk
 ·simp only at hk
  subst hk
  rw [if_pos (.inl rfl)] at HD
  have HI:=hid (owns_lit_at w ((w.alloc (.cells #[.slice ia im ic,.int .u8 1,.int .i64 a,.int .i64 tt,.int .i64 els] 38)).alloc (.cells #[.int .u8 1,.int .i64 a,.int .i64 tt,.int .i64 els] 35)) [tt] (w.heap.size+1+1) 1 #[.int .i64 tt] (by simp only [World.size_alloc];omega) (by simp only [World.size_alloc]) rfl rfl (by simp))
  have HB:Hid (Below w.heap.size w (((w.alloc (.cells #[.slice ia im ic,.int .u8 1,.int .i64 a,.int .i64 tt,.int .i64 els] 38)).alloc (.cells #[.int .u8 1,.int .i64 a,.int .i64 tt,.int .i64 els] 35)).alloc (.cells #[.int .i64 tt] 3))):=(((Below.refl _ _).alloc (Nat.le_refl _) _).alloc (by simp) _).alloc (by simp only [World.size_alloc];omega) _
  go_enter Tryz.func60,Tryz.ntmps60
  go_wp2
  go_ret
  exact ⟨_,rfl,by rw [HD.out];exact HI.out,HB.out⟩
 ·simp only at hk
  subst hk
  by_cases h3:tt=els
  ·rw [if_pos (.inr ⟨rfl,h3⟩)] at HD
   have e3:(els != tt)=false:=by simpa using h3.symm
   have HI:=hid (owns_lit_at w ((w.alloc (.cells #[.slice ia im ic,.int .u8 2,.int .i64 a,.int .i64 tt,.int .i64 els] 38)).alloc (.cells #[.int .u8 2,.int .i64 a,.int .i64 tt,.int .i64 els] 35)) [tt] (w.heap.size+1+1) 1 #[.int .i64 tt] (by simp only [World.size_alloc];omega) (by simp only [World.size_alloc]) rfl rfl (by simp))
   have HB:Hid (Below w.heap.size w (((w.alloc (.cells #[.slice ia im ic,.int .u8 2,.int .i64 a,.int .i64 tt,.int .i64 els] 38)).alloc (.cells #[.int .u8 2,.int .i64 a,.int .i64 tt,.int .i64 els] 35)).alloc (.cells #[.int .i64 tt] 3))):=(((Below.refl _ _).alloc (Nat.le_refl _) _).alloc (by simp) _).alloc (by simp only [World.size_alloc];omega) _
   clear h3
   go_enter Tryz.func60,Tryz.ntmps60
   go_wp2
   go_ret
   exact ⟨_,rfl,by rw [HD.out];exact HI.out,HB.out⟩
  ·rw [if_neg (fun h=>h.elim (by decide) fun h=>h3 h.2),if_pos rfl] at HD
   have e3:(els != tt)=true:=by simpa using fun h=>h3 h.symm
   have HI:=hid (owns_lit_at w ((w.alloc (.cells #[.slice ia im ic,.int .u8 2,.int .i64 a,.int .i64 tt,.int .i64 els] 38)).alloc (.cells #[.int .u8 2,.int .i64 a,.int .i64 tt,.int .i64 els] 35)) [tt,els] (w.heap.size+1+1) 2 #[.int .i64 tt,.int .i64 els] (by simp only [World.size_alloc];omega) (by simp only [World.size_alloc]) rfl rfl (by simp))
   have HB:Hid (Below w.heap.size w (((w.alloc (.cells #[.slice ia im ic,.int .u8 2,.int .i64 a,.int .i64 tt,.int .i64 els] 38)).alloc (.cells #[.int .u8 2,.int .i64 a,.int .i64 tt,.int .i64 els] 35)).alloc (.cells #[.int .i64 tt,.int .i64 els] 3))):=(((Below.refl _ _).alloc (Nat.le_refl _) _).alloc (by simp) _).alloc (by simp only [World.size_alloc];omega) _
   clear h3
   go_enter Tryz.func60,Tryz.ntmps60
   go_wp2
   go_ret
   exact ⟨_,rfl,by rw [HD.out];exact HI.out,HB.out⟩
 ·simp only at hk
  subst hk
  rw [if_neg (fun h=>h.elim (by decide) fun h=>absurd h.1 (by decide)),if_neg (by decide)] at HD
  have HB:Hid (Below w.heap.size w ((w.alloc (.cells #[.slice ia im ic,.int .u8 3,.int .i64 a,.int .i64 tt,.int .i64 els] 38)).alloc (.cells #[.int .u8 3,.int .i64 a,.int .i64 tt,.int .i64 els] 35))):=(((Below.refl _ _).alloc (Nat.le_refl _) _).alloc (by simp) _)
  go_enter Tryz.func60,Tryz.ntmps60
  go_wp2
  go_ret
  exact ⟨_,rfl,by rw [HD.out];exact World.ownsRow_nil _ _ _ _,HB.out⟩

theorem next_to (x:Ex) (ia:Option Addr) (im ic:Nat) (w:World) (hk:x.kind=1∨x.kind=2∨x.kind=3) :
  Calls Tryz.prog 60 #[.agg #[.slice ia im ic,.int .u8 x.kind,.int .i64 x.a,.int .i64 x.to,.int .i64 x.els]] w (LstRN (toE x) w) :=
 (next_own x ia im ic w hk).mono fun _ _ ⟨u,h1,h2,h3⟩=>⟨u,h1,newI_of h2 (by have:=toE_len x;omega),h3⟩

def BlsE (p:Px) (f b:Int) (w:World) (e:Ending) (w' : World):Prop:=∃ ao n c,e=.returned (.tuple #[.slice ao n c,.int .i64 (askB p f b)])∧(askB p f b=0→BlksAt w' (.slice ao n c) (blsP p f))∧Below w.heap.size w w'
theorem bls_no {p:Px} {f b:Int} {w w' : World} {er:Int} (h:askB p f b=er) (hne:er≠0) (hb:Below w.heap.size w w'):BlsE p f b w (.returned (.tuple #[.slice none 0 0,.int .i64 er])) w' :=
 ⟨none,0,0,by rw [h],fun h0=>absurd (h.symm.trans h0) hne,hb⟩
theorem bls_yes {p:Px} {f b:Int} {w w' : World} {ao:Option Addr} {n c:Nat} {l:List Bx} (h:askB p f b=0) (hl:blsP p f=l) (hbl:BlksAt w' (.slice ao n c) l) (hb:Below w.heap.size w w'):BlsE p f b w (.returned (.tuple #[.slice ao n c,.int .i64 0])) w' :=
 ⟨ao,n,c,by rw [h],fun _=>hl ▸ hbl,hb⟩

theorem fn_later {W:World} {vf:Value} {p:Px} {f:Int} {k:Nat} {x:Fx} (h:FnsAt W vf p.funcs) (h1:Has1 p f k x):∃ b off cap ao c,vf=.slice (some ⟨b,off,none⟩) p.funcs.length cap∧(∀ w',Aft W w'→w'.cell? ⟨b,off+k * 2,none⟩=some (.int .i64 x.sig))∧(∀ w',Aft W w'→w'.cell? ⟨b,off+k * 2+1,none⟩=some (.slice ao x.blocks.length c))∧BlksAt W (.slice ao x.blocks.length c) x.blocks:=by
 obtain ⟨b,off,cap,vb,rfl,hb,c0,c1,hbl⟩:=fn_at h h1
 obtain ⟨ao,c,rfl,_⟩:=hbl.slice
 exact ⟨b,off,cap,ao,c,rfl,later c0,later c1,hbl⟩

theorem find_calls (p:Px) (f b:Int) (v:Value) (w:World) (hp:PrAt w v p) (htab:Tab w) (hs:Small p) (hok:POk p) :
  Calls Tryz.prog 58 #[v,.int .i64 f,.int .i64 b] w (BlsE p f b w):=by
 have hp0:=hp
 obtain ⟨vt,vf,rfl,ht,hf⟩:=hp
 obtain ⟨W,hW⟩:∃ W,W=w.alloc (.cells #[vt,vf] 27):=⟨_,rfl⟩
 have hbW:Below w.heap.size w W:=by rw [hW];exact alloc_below _ _
 have k1:W.heap[w.heap.size]?=some (.cells #[vt,vf] 27 (0,0)):=by rw [hW];exact alloc_new _ _
 have hpW:=hp0.below hbW
 have HR:=hid (regsP_calls p f _ W hpW (htab.on hbW) hs hok)
 have HFN:=hid (fun (k:Nat) (x:Fx) (h1:Has1 p f k x)=>fn_later (hf.below fnStays hbW) h1)
 obtain ⟨ta,tc,rfl⟩:=ht.slice
 obtain ⟨fa,fc,rfl,_⟩:=hf.slice
 have l0:=later_cells k1 0 _ rfl;have l1:=later_cells k1 1 _ rfl
 have HBW:=hid hbW
 have HW:=hid hW
 have h0:=Aft.refl W
 clear ht hf hpW hbW hW k1 hp0 hs hok htab
 by_cases hz:findP p f=0
 rotate_left
 ·have HA:=hid (fun w'=>bls_no (p:=p) (f:=f) (b:=b) (w:=w) (w':=w') (ask_find hz) hz)
  have e0:(findP p f != 0)=true:=by simpa using hz
  clear HFN hz
  rw [if_neg (by simpa using e0)] at HR
  generalize findP p f=fe at *
  generalize p.types.length=n1 at *
  generalize p.funcs.length=n2 at *
  go_enter Tryz.func58,Tryz.ntmps58
  go_wp2_with fail
  rw [← HW.out]
  refine HR.out.mono ?_
  rintro e w1 ⟨rfl,hb1⟩
  have h1:=h0.go hb1
  clear HR hb1
  go_wp2
  go_ret2
  exact HA.out _ (h1.out HBW.out)
 obtain ⟨k,x,h1⟩:=has1 hz
 have HAY:=hid (fun h0 h1=>ask_yes (p:=p) (f:=f) (b:=b) hz h0 h1)
 have HAN:=hid (fun h=>ask_no (p:=p) (f:=f) (b:=b) hz h)
 have HBP:=hid (fn_blocks h1)
 rw [fn_blocks h1] at HAY HAN
 obtain ⟨fb,foff,fcap,ao,bc,he,d0,d1,hbl0⟩:=HFN.out k x h1
 cases he
 rw [hz,if_pos rfl] at HR
 generalize (cntP p f:Int)=cnt at *
 have hke:=h1.eq
 have hkl:=h1.lt
 have hbl:=h1.blocks
 have HBL:=hid hbl
 have HN:=hid (fun (h:¬ (0≤b∧b < x.blocks.length)) w'=>bls_no (p:=p) (f:=f) (b:=b) (w:=w) (w':=w') (er:=2) (HAN.out h) (by decide))
 have HY:=hid (fun h1 h2 w' (ha:Aft W w')=>bls_yes (p:=p) (f:=f) (b:=b) (w:=w) (w':=w') (HAY.out h1 h2) HBP.out (hbl0.below blkStays ha.below))
 clear HFN hz h1 hbl HAY HAN HBP hbl0
 subst hke
 obtain ⟨sg,bl⟩:=x
 simp only at *
 generalize p.types.length=n1 at *
 generalize p.funcs.length=n2 at *
 generalize bl.length=n3 at *
 by_cases b0:b < 0
 ·have HA:=hid (HN.out (by omega))
  clear HN HY
  go_enter Tryz.func58,Tryz.ntmps58
  go_wp2_with fail
  rw [← HW.out]
  refine HR.out.mono ?_
  rintro e w1 ⟨rfl,hb1⟩
  have h1:=h0.go hb1
  have HE:=hid (h1.out HBW.out)
  clear HR hb1
  go_wp2
  all_goals first | (exfalso;omega) | (go_ret2;exact HA.out _ HE.out)
 by_cases b1:(n3:Int)≤b
 ·have HA:=hid (HN.out (by omega))
  clear HN HY
  go_enter Tryz.func58,Tryz.ntmps58
  go_wp2_with fail
  rw [← HW.out]
  refine HR.out.mono ?_
  rintro e w1 ⟨rfl,hb1⟩
  have h1:=h0.go hb1
  have HE:=hid (h1.out HBW.out)
  clear HR hb1
  go_wp2
  all_goals first | (exfalso;omega) | (go_ret2;exact HA.out _ HE.out)
 ·have HA:=hid (HY.out (by omega) (by omega))
  clear HN HY
  go_enter Tryz.func58,Tryz.ntmps58
  go_wp2_with fail
  rw [← HW.out]
  refine HR.out.mono ?_
  rintro e w1 ⟨rfl,hb1⟩
  have h1:=h0.go hb1
  have HE:=hid (h1.out HBW.out)
  have HH1:=hid h1
  clear HR hb1
  go_wp2
  all_goals first | (exfalso;omega) | (go_ret2;exact HA.out _ HH1.out HE.out)
def BlsY (l:List Bx) (w:World) (e:Ending) (w' : World):Prop:=∃ ao c,e=.returned (.tuple #[.slice ao l.length c,.int .i64 0])∧BlksAt w' (.slice ao l.length c) l∧Below w.heap.size w w'
theorem find_yes (p:Px) (f b:Int) (v:Value) (w:World) (hp:PrAt w v p) (htab:Tab w) (hs:Small p) (hok:POk p) (hz:askB p f b=0) :
  Calls Tryz.prog 58 #[v,.int .i64 f,.int .i64 b] w (BlsY (blsP p f) w):=by
 refine (find_calls p f b v w hp htab hs hok).mono ?_
 rintro e w' ⟨ao,n,c,rfl,hbl,hb⟩
 have h1:=hbl hz
 obtain rfl:=RowAt.len h1
 exact ⟨ao,c,by rw [hz],h1,hb⟩
def BlsN (er:Int) (w:World) (e:Ending) (w' : World):Prop:=∃ ao n c,e=.returned (.tuple #[.slice ao n c,.int .i64 er])∧Below w.heap.size w w'
theorem find_no (p:Px) (f b:Int) (v:Value) (w:World) (hp:PrAt w v p) (htab:Tab w) (hs:Small p) (hok:POk p) :
  Calls Tryz.prog 58 #[v,.int .i64 f,.int .i64 b] w (BlsN (askB p f b) w):=by
 refine (find_calls p f b v w hp htab hs hok).mono ?_
 rintro e w' ⟨ao,n,c,rfl,_,hb⟩
 exact ⟨ao,n,c,rfl,hb⟩
end Go.Proofs.YtpejpnffcepdlaaGreatDoor.FkN
namespace Go.Proofs.YtpejpnffcepdlaaGreatDoor.FkW
open Go.RowKit Go.Lib Go.Maps SetP IntO TyM TyP TyB ShM ShP ShB ShE Aft Fresh FwM FwC FwP FwQ FwR FwO FkP FkN FkS

def ThrC (W0:World) (vb:Value) (l:List Bx) (p bm:Nat) (f:Nat):Prop:=∀ (b:Nat) (s:List Nat × List Nat) (vo:Value) (w:World),St W0 vb p bm vo s w→Inv l.length s→b < l.length→b∉s.1→l.length+1≤f+s.1.length →
 Calls Tryz.prog 184 #[.pointer (some ⟨p,0,none⟩),.int .i64 (b:Int)] w (WkR W0 vb p bm (thr (succ l) f b s) vo w)

theorem each_of (W0:World) (vb:Value) (l:List Bx) (p bm f:Nat) (hlow:Low l) (hlen:l.length≤1000) (CT:ThrC W0 vb l p bm f) (cs:List Nat) (hcs:∀ c∈cs,c < l.length) (s:List Nat × List Nat) (vo v:Value) (w:World)
  (hst:St W0 vb p bm vo s w) (hi:Inv l.length s) (hf:l.length+1≤f+s.1.length) (hv:IntsAt w v (ints cs)) (ha:Away3 p bm vo w v) (hcl:cs.length≤1000) :
  Calls Tryz.prog 183 #[.pointer (some ⟨p,0,none⟩),v,.func (.func 184) #[] #[]] w (WkR W0 vb p bm (each (succ l) f cs s) vo w):=by
 have HST:=hid hst
 have HV:=hid hv
 have HA:=hid ha
 have HCL:=hid hcl
 have HCS:=hid hcs
 have HRES:=hid (fun (k:Nat)=>each_res (succ_lt hlow) (cs.take k) s hi (fun c hc=>hcs c (List.mem_of_mem_take hc)) hf)
 have HTK:=hid (fun (k:Nat) (h:k < cs.length)=>each_take (t:=succ l) (f:=f) (s:=s) h)
 have HF:=hid (fun (k:Nat)=>Nat.le_trans hf (Nat.add_le_add_left (HRES.out k).len f))
 have HALL:Hid (each (succ l) f (cs.take cs.length) s=each (succ l) f cs s):=by show _=_;rw [List.take_length]
 have HZ:Hid (each (succ l) f (cs.take 0) s=s):=rfl
 have HLEN:=hid hlen
 have HCT:=hid CT
 obtain ⟨va,vc,rfl,_⟩:=ints_slice hv
 rw [ints_length] at HV HA ⊢
 clear hst hv ha hcl hi hf hcs hlow CT hlen
 unfold ThrC at HCT
 generalize succ l=t at *
 generalize l.length=n at *
 go_enter Tryz.func183,Tryz.ntmps183
 go_wp2_with fail
 go_loopg [12] cs.length (fun gk i wr=>∃ (k:Nat) (vo1:Value),k+gk=cs.length∧i=.int .i64 k∧St W0 vb p bm vo1 (each t f (cs.take k) s) wr∧Keeps3 p bm vo w wr∧NewRow w vo vo1∧IntsAt wr (.slice va cs.length vc) (ints cs)∧Away3 p bm vo1 wr (.slice va cs.length vc))
 case atStart=>exact ⟨0,vo,by omega,rfl,HZ.out.symm ▸ HST.out,Keeps3.refl _ _ _ _,NewRow.refl _ _,HV.out,HA.out⟩
 case round =>
  obtain ⟨k,vo1,hk,rfl,hst,hkp,hnr,hv,ha⟩:=hrel
  have HK:=hid hk
  have HST1:=hid hst
  have HKP:=hid hkp
  have HNR:=hid hnr
  have HV1:=hid hv
  have HA1:=hid ha
  clear HST HV HA hk
  by_cases hlt:k < cs.length
  ·have HLT:=hid hlt
   have hkl:(k:Int) < (cs.length:Int):=by omega
   have hkb:k≤9223372036854775806:=by have:=HCL.out;omega
   obtain ⟨b2,o2,rfl,_,c2⟩:=TyP.ints_at hv k (by rw [ints_length];exact hlt)
   rw [nums_at hlt] at c2
   obtain ⟨_,q1,_,_⟩:=hst.cell
   obtain ⟨D,hown,hhas⟩:=hst.map
   have HR:=hid (HRES.out k)
   have HSN:=hid (HTK.out k hlt)
   have HCN:Hid (cs[k] < n):=HCS.out _ (List.getElem_mem hlt)
   have HFK:=hid (HF.out k)
   have hkey:=key_int (n:=cs[k]) (by have:=HCN.out;have:=HLEN.out;omega)
   have HHAS:=hid (hhas cs[k])
   clear hhas hst hkp hnr hv ha HRES HTK HCS HF
   generalize each t f (cs.take k) s=s1 at *
   generalize cs[k]=c at *
   by_cases hin:c∈s1.1
   ·have hd:Maps.has D (Lit.int .i64 (c:Int))=true:=HHAS.out.trans (decide_eq_true hin)
    have HS2:=hid (HST1.out.go (alloc_below wr (.cells #[] 215)))
    rw [thr_old hin] at HSN
    have HK2:=hid (HKP.out.trans HNR.out (Keeps3.below (p:=p) (bm:=bm) (vo:=vo1) (alloc_below wr (.cells #[] 215))))
    have HB:=hid (alloc_below wr (.cells #[] 215))
    clear hin
    go_wp2_with (at_lookup;refine wpList_lookup_own_unit _ rfl _ _ 102 rfl 3 215 law_int Tryz.underlying102 (zero_unit _) bm _ D rfl hown _ _ rfl hkey ?_)
    go_roundg (gk - 1)
    case measure=>have:=HK.out;have:=HLT.out;omega
    case rel=>exact ⟨k+1,vo1,by have:=HK.out;have:=HLT.out;omega,by go_num,by rw [HSN.out];exact HS2.out,HK2.out,HNR.out,HV1.out.below HB.out,HA1.out.keep (Keeps3.below HB.out) (NewRow.refl _ _)⟩
   ·have hd:Maps.has D (Lit.int .i64 (c:Int))=false:=HHAS.out.trans (decide_eq_false hin)
    have hb0:=alloc_below wr (.cells #[] 215)
    have HC:=hid (HCT.out c s1 vo1 _ (HST1.out.go hb0) HR.out.inv HCN.out hin HFK.out)
    have HK1:=hid (HKP.out.trans HNR.out (Keeps3.below (p:=p) (bm:=bm) (vo:=vo1) hb0))
    have HV2:=hid (HV1.out.below hb0)
    have HA2:=hid (HA1.out.keep (Keeps3.below hb0) (NewRow.refl _ _))
    have HN1:Hid (NewRow w vo vo1):=HNR
    clear hin hb0 HHAS HR HFK HCN HST1 HKP HV1 HA1
    go_wp2_with (first | (at_lookup;refine wpList_lookup_own_unit _ rfl _ _ 102 rfl 3 215 law_int Tryz.underlying102 (zero_unit _) bm _ D rfl hown _ _ rfl hkey ?_) | ((with_reducible refine HC.out.mono ?_);rintro e w2 ⟨rfl,vo2,hst2,hkp2,hnr2⟩))
    have HS2:=hid hst2
    have HK2:=hid (HK1.out.trans HN1.out hkp2)
    have HV3:=hid (HA2.out.ints hkp2 HV2.out)
    have HA3:=hid (HA2.out.keep hkp2 hnr2)
    have HN2:=hid (HN1.out.trans HK1.out.1 hnr2)
    clear hst2 hkp2 hnr2
    go_wp2
    go_roundg (gk - 1)
    case measure=>have:=HK.out;have:=HLT.out;omega
    case rel=>exact ⟨k+1,vo2,by have:=HK.out;have:=HLT.out;omega,by go_num,by rw [HSN.out];exact HS2.out,HK2.out,HN2.out,HV3.out,HA3.out⟩
  ·obtain rfl:k=cs.length:=by have:=HK.out;omega
   clear hst hkp hnr hv ha hlt
   rw [HALL.out] at HST1
   go_wp2
   go_end0
   exact ⟨rfl,vo1,HST1.out,HKP.out,HNR.out⟩
theorem blk_cells {w:World} {ao:Option Addr} {n c:Nat} {l:List Bx} (h:BlksAt w (.slice ao n c) l) {b:Nat} (hb:b < l.length):∃ g off ia im ic,ao=some ⟨g,off,none⟩∧w.cell? ⟨g,off+b * 5,none⟩=some (.slice ia im ic)∧w.cell? ⟨g,off+b * 5+1,none⟩=some (.int .u8 (endAt l b).kind)∧w.cell? ⟨g,off+b * 5+2,none⟩=some (.int .i64 (endAt l b).a)∧w.cell? ⟨g,off+b * 5+3,none⟩=some (.int .i64 (endAt l b).to)∧w.cell? ⟨g,off+b * 5+4,none⟩=some (.int .i64 (endAt l b).els):=by
 obtain ⟨g,off,rfl,hlt,vi,c0,c1,c2,c3,c4,hins⟩:=h.at b hb
 have he:endAt l b=l[b].en:=by unfold endAt;rw [List.getElem?_eq_getElem hb];rfl
 obtain ⟨ia,ic,rfl,_⟩:=hins.slice
 rw [he]
 exact ⟨g,off,ia,_,ic,rfl,c0,c1,c2,c3,c4⟩

theorem through_of (W0:World) (vb:Value) (l:List Bx) (p bm f:Nat) (hlow:Low l) (hkinds:Kinds l) (hlen:l.length≤1000) (hbl:BlksAt W0 vb l) (CT:ThrC W0 vb l p bm f):ThrC W0 vb l p bm (f+1):=by
 intro b s vo w hst hi hb hm hf
 rw [thr_new hm]
 obtain ⟨ba,bc,rfl,_⟩:=hbl.slice
 obtain ⟨q0,q1,_,_⟩:=hst.cell
 obtain ⟨D,hown,hhas⟩:=hst.map
 have HBEG:=hid (fun (w1:World) (d:DataW Unit) ho hg=>hst.begin (w1:=w1) (b:=b) (d:=d) hown hhas ho hg)
 have HBC:=hid (fun (w1:World) (h:Below W0.heap.size W0 w1)=>blk_cells (hbl.below blkStays h) hb)
 have HE:=hid (fun (u:Value) (w2:World) (h1:St W0 (.slice ba l.length bc) p bm vo (s.1++[b],s.2) w2) (h2:IntsAt w2 u (ints (succ l b))) (h3:Away3 p bm vo w2 u)=>each_of W0 _ l p bm f hlow hlen CT (succ l b) (fun c hc=>succ_lt hlow b hb c hc) (s.1++[b],s.2) vo u w2 h1 (inv_begin hi hb hm) (by simp only [List.length_append,List.length_singleton];omega) h2 h3 (by have:=succ_len l b;omega))
 have HNX:=hid (fun (ia:Option Addr) (im ic:Nat) (w1:World)=>next_to (endAt l b) ia im ic w1 (hkinds b hb))
 have HIS:=hid (ints_succ hlow hb)
 have HSL:=hid ((each_res (f:=f) (succ_lt hlow) (succ l b) (s.1++[b],s.2) (inv_begin hi hb hm) (fun c hc=>succ_lt hlow b hb c hc) (by simp only [List.length_append,List.length_singleton];omega)).inv)
 have HL1:=hid (inv_len hi)
 have hkey:=key_int (n:=b) (by omega)
 have hml:s.1.length < maxLen:=by unfold maxLen;have:=HL1.out.1;omega
 have HLEN:=hid hlen
 have hbn:(b:Int) < (l.length:Int):=by omega
 clear hst hi hm hf hlow hkinds hlen hbl CT hhas
 generalize each (succ l) f (succ l b) (s.1++[b],s.2)=s2 at *
 generalize succ l b=tl at *
 generalize endAt l b=x at *
 obtain ⟨ek,ea,et,ee⟩:=x
 simp only at *
 generalize toE ⟨ek,ea,et,ee⟩=tx at *
 generalize l.length=n at *
 go_enter Tryz.func184,Tryz.ntmps184
 go_wp2_with (at_mapUpdate;refine wpList_mapUpdate_own _ rfl _ _ _ 102 rfl 3 215 law_int Tryz.underlying102 (unitElem (H:=Unit)) bm s.1.length D rfl hown hml _ _ _ rfl rfl hkey _ [] unitElem_mk ?_)
 intro w1 hown1 hgrow1
 obtain ⟨hst1,hk1⟩:=HBEG.out w1 _ hown1 hgrow1
 obtain ⟨g,off,ia,im,ic,rfl,c0,c1,c2,c3,c4⟩:=HBC.out w1 hst1.bel
 obtain ⟨r0,_,_,_⟩:=hst1.cell
 have HST1:=hid hst1
 have HK1:=hid hk1
 clear hst1 hk1 hown hown1 hgrow1 HBEG HBC q0 q1 hkey
 go_wp2_with fail
 refine (HNX.out ia im ic w1).mono ?_
 rintro e w2 ⟨u,rfl,hu,hb2⟩
 have HST2:=hid (HST1.out.go hb2)
 have HA2:=hid (away_new HST1.out hu)
 have HK2:=hid (HK1.out.trans (NewRow.refl _ _) (Keeps3.below (p:=p) (bm:=bm) (vo:=vo) hb2))
 rw [← HIS.out] at hu
 have HC:=hid (HE.out u w2 HST2.out hu.1 HA2.out)
 clear HE HNX hu hb2 HST1 HK1 HA2 c0 c1 c2 c3 c4 r0
 go_wp2_with fail
 refine HC.out.mono ?_
 rintro e w3 ⟨rfl,vo3,hst3,hk3,hnr3⟩
 obtain ⟨oa,oc,rfl⟩:=own_slice hst3.row
 have HK3:=hid (HK2.out.trans (NewRow.refl _ _) hk3)
 have HN3:=hid (NewRow.trans (NewRow.refl w vo) HK2.out.1 hnr3)
 have HST3:=hid hst3
 have HO3:=hid (hst3.row.alloc (.cells #[.int .i64 b] 3))
 have HI3:=hid (ints_one (w:=w3.alloc (.cells #[.int .i64 b] 3)) (b:=w3.heap.size) (n:=b) (cell_new _ _ _ _ rfl) (size_new _ _ _ rfl))
 have hsz:W0.heap.size≤(w3.alloc (.cells #[.int .i64 b] 3)).heap.size:=Nat.le_trans hst3.bel.size (alloc_below _ _).size
 obtain ⟨_,_,q2,_⟩:=hst3.cell
 have HL3:=hid (inv_len HSL.out).2
 clear hst3 hk3 hnr3 HC HST2 HK2
 have hn3:s2.2.length≤100000:=by have:=HL3.out;have:=HLEN.out;omega
 go_wp2_with (at_builtin;refine wpList_append_intsN rfl (.tmp 24) (.tmp 26) rfl W0.heap.size (.slice oa s2.2.length oc) rfl s2.2.length (intVals (ints s2.2)) HO3.out hn3 (.slice (some ⟨w3.heap.size,0,none⟩) 1 1) [(b:Int)] rfl HI3.out (by simp) hsz ?_)
 intro v7 w7 hown7 hgr7 hnr7
 obtain ⟨xa,xc,rfl⟩:=own_slice hown7
 obtain ⟨HS7,HK7,HN7⟩:=HST3.out.put hown7 hgr7 hnr7
 have HS8:=hid HS7
 have HK8:=hid (HK3.out.trans HN3.out HK7)
 have HN8:=hid (HN3.out.trans HK3.out.1 HN7)
 have f7:w7.cell? ⟨p,2,none⟩=some (.slice oa s2.2.length oc):=by
  have h1:=q2
  unfold World.cell? at h1 ⊢
  rw [hgr7.block p (by simp only [World.size_alloc];have:=HST3.out.lt;omega) (fun e=>HST3.out.row_p e.symm),Below.heap_alloc _ _ _ HST3.out.lt]
  exact h1
 have f8:w7.frozen? ⟨p,2,none⟩=false:=by
  have h1:=HST3.out.cell.2.2.2 2
  unfold World.frozen? at h1 ⊢
  rw [hgr7.block p (by simp only [World.size_alloc];have:=HST3.out.lt;omega) (fun e=>HST3.out.row_p e.symm),Below.heap_alloc _ _ _ HST3.out.lt]
  exact h1
 clear HS7 HK7 HN7 hown7 hgr7 hnr7 HK3 HN3 HO3 HI3 hsz HST3 q2
 go_wp2
 go_end0
 exact ⟨rfl,_,HS8.out,HK8.out,HN8.out⟩

theorem through_all (W0:World) (vb:Value) (l:List Bx) (p bm:Nat) (hlow:Low l) (hkinds:Kinds l) (hlen:l.length≤1000) (hbl:BlksAt W0 vb l):∀ f,ThrC W0 vb l p bm f
 | 0=>by
  intro b s vo w hst hi hb hm hf
  have:=(inv_len hi).1
  omega
 | f+1=>through_of W0 vb l p bm f hlow hkinds hlen hbl (through_all W0 vb l p bm hlow hkinds hlen hbl f)

theorem behind_calls (l:List Bx) (cs:List Nat) (vb v:Value) (w:World) (hlow:Low l) (hkinds:Kinds l) (hlen:l.length≤1000) (hbl:BlksAt w vb l) (hcs:∀ c∈cs,c < l.length) (hcl:cs.length≤1000) (hv:IntsAt w v (ints cs)) :
  Calls Tryz.prog 144 #[vb,v] w fun e w'=>∃ u,e=.returned u∧w'.ownsRow w.heap.size 3 1 u (behindL l cs).length (intVals (ints (behindL l cs)))∧Below w.heap.size w w':=by
 have hmm:=@run_makeMap Tryz.prog
 obtain ⟨ba,bc,rfl,_⟩:=hbl.slice
 obtain ⟨W,hW⟩:∃ W,W=(w.alloc (.map #[] 0)).alloc (.cells #[.slice ba l.length bc,.map (some w.heap.size),.slice none 0 0] 257):=⟨_,rfl⟩
 have hbW:Below w.heap.size w W:=by rw [hW];exact ((Below.refl _ _).alloc (Nat.le_refl _) _).alloc (by simp) _
 have hst:St w (.slice ba l.length bc) (w.heap.size+1) w.heap.size (.slice none 0 0) ([],[]) W:=by
  refine ⟨?_,?_,World.ownsRow_nil _ _ _ _,hbW,by omega,by omega⟩
  ·rw [hW]
   have:=TyD.alloc_new (w.alloc (.map #[] 0)) (.cells #[.slice ba l.length bc,.map (some w.heap.size),.slice none 0 0] 257)
   rwa [World.size_alloc] at this
  ·have h1:=mapAt_made w
   rw [hW]
   exact h1.kept (Below.heap_alloc _ _ _ (by simp))
 have hiv:=hv.below hbW
 have haw:Away3 (w.heap.size+1) w.heap.size (.slice none 0 0) W v:=by
  intro g off n c e hn
  obtain ⟨ao,cap,rfl,_,hm,_⟩:=hv
  cases e
  obtain ⟨b,o,hb,hlt,_⟩:=hm hn
  cases hb
  exact ⟨Nat.lt_of_lt_of_le hlt hbW.size,by omega,by omega,fun e=>by cases e⟩
 have HC:=hid (each_of w (.slice ba l.length bc) l (w.heap.size+1) w.heap.size (l.length+1) hlow hlen (through_all w _ l _ _ hlow hkinds hlen hbl _) cs hcs ([],[]) (.slice none 0 0) v W hst (inv_none _) (by simp) hiv haw hcl)
 have HB:Hid (behindL l cs=(each (succ l) (l.length+1) cs ([],[])).2):=rfl
 have HW:=hid hW
 clear hlow hkinds hlen hbl hcs hcl hv hbW hst hiv haw hW
 generalize behindL l cs=bl at *
 generalize each (succ l) (l.length+1) cs ([],[])=s at *
 go_enter Tryz.func144,Tryz.ntmps144
 go_wp2_with fail
 rw [← HW.out]
 refine HC.out.mono ?_
 rintro e w1 ⟨rfl,vo,hst,_,_⟩
 obtain ⟨_,_,q2,_⟩:=hst.cell
 obtain ⟨oa,oc,rfl⟩:=own_slice hst.row
 have HO:=hid hst.row
 have HE:=hid hst.bel
 clear HC hst
 go_wp2
 go_ret
 exact ⟨_,rfl,by rw [HB.out];exact HO.out,HE.out⟩
end Go.Proofs.YtpejpnffcepdlaaGreatDoor.FkW
namespace Go.Proofs.YtpejpnffcepdlaaGreatDoor.FkV
open Go.RowKit Go.Lib SetP IntO TyM TyP TyB ShM ShP ShA ShB ShE ShH ShI ShJ Aft Fresh FwM FwC FwP FwQ FwR FwO FwK FvC FkP FkN FkS FkW FkC

/-! Preds -/
theorem preds_c:PredsC:=by
 intro p f b v w hp htab hs hok _ _
 have hp0:=hp
 obtain ⟨vt,vf,rfl,ht,hf⟩:=hp
 obtain ⟨W,hW⟩:∃ W,W=w.alloc (.cells #[vt,vf] 27):=⟨_,rfl⟩
 have hbW:Below w.heap.size w W:=by rw [hW];exact alloc_below _ _
 have k1:W.heap[w.heap.size]?=some (.cells #[vt,vf] 27 (0,0)):=by rw [hW];exact alloc_new _ _
 have hpW:=hp0.below hbW
 have HRY:=hid (fun hz=>find_yes p f b _ W hpW (htab.on hbW) hs hok hz)
 have HR:=hid (find_no p f b _ W hpW (htab.on hbW) hs hok)
 obtain ⟨ta,tc,rfl⟩:=ht.slice
 obtain ⟨fa,fc,rfl,_⟩:=hf.slice
 have l0:=later_cells k1 0 _ rfl;have l1:=later_cells k1 1 _ rfl
 have HBW:=hid hbW
 have HW:=hid hW
 have h0:=Aft.refl W
 have HOK:=hid hok
 clear ht hf hpW hbW hW k1 hp0 hs hok htab
 by_cases hz:askB p f b=0
 rotate_left
 ·have HN:Hid (predsA p f b=[]):=by show _=_;unfold predsA;rw [if_neg hz]
  have e0:(askB p f b != 0)=true:=by simpa using hz
  clear hz HRY
  generalize predsA p f b=na at *
  generalize askB p f b=fe at *
  generalize p.types.length=n1 at *
  generalize p.funcs.length=n2 at *
  go_enter Tryz.func23,Tryz.ntmps23
  go_wp2_with fail
  rw [← HW.out]
  refine HR.out.mono ?_
  rintro e w1 ⟨ao,n,c,rfl,hb1⟩
  have h1:=h0.go hb1
  clear HR hb1
  go_wp2
  go_ret2
  exact ⟨_,rfl,by rw [HN.out];exact newI_none _ _,h1.out HBW.out⟩
 obtain ⟨hz1,b0,b1⟩:=ask_zero hz
 have HN:Hid (predsA p f b=ints (aheadL (blsP p f) b.toNat)):=by show _=_;unfold predsA;rw [if_pos hz]
 have HKD:=hid (kinds_fn HOK.out hz1)
 obtain ⟨hlow,_,hl16⟩:=low_fn HOK.out hz1
 obtain ⟨j,hj⟩:∃ j:Nat,b=j:=⟨b.toNat,by omega⟩
 subst hj
 rw [Int.toNat_natCast] at HN
 have HNX:=hid (fun (k:Nat) (hk:k < (blsP p f).length) (ia:Option Addr) (im ic:Nat) (w1:World)=>next_to (endAt (blsP p f) k) ia im ic w1 (HKD.out k hk))
 have HIS:=hid (fun (k:Nat) (hk:k < (blsP p f).length)=>ints_succ hlow hk)
 have HCT:=hid (fun (k:Nat)=>show (ints (succ (blsP p f) k)).contains (j:Int)=decide (j∈succ (blsP p f) k) by
  rw [Bool.eq_iff_iff,List.contains_iff_mem,decide_eq_true_iff];exact ints_mem)
 have HR1:=hid (HRY.out hz)
 have HL16:=hid hl16
 rw [hz]
 clear HR HRY hz hz1 b0 b1 HKD hlow hl16
 generalize predsA p f (j:Int)=na at *
 generalize blsP p f=bl at *
 generalize p.types.length=n1 at *
 generalize p.funcs.length=n2 at *
 go_enter Tryz.func23,Tryz.ntmps23
 go_wp2_with fail
 rw [← HW.out]
 refine HR1.out.mono ?_
 rintro e w1 ⟨ao,c,rfl,hbl1,hb1⟩
 have h1:=h0.go hb1
 have HBB:=hid hbl1
 have HH1:=hid h1
 clear HR1 hb1 hbl1 l0 l1 h0 h1
 go_wp2_with fail
 go_loopg [10,24] bl.length (fun gk u i wr=>∃ k:Nat,k+gk=bl.length∧i=.int .i64 k∧wr.ownsRow w1.heap.size 3 1 u (aheadN bl j k).length (intVals (ints (aheadN bl j k)))∧Aft w1 wr)
 case atStart=>exact ⟨0,by omega,rfl,World.ownsRow_nil _ _ _ _,Aft.refl _⟩
 case round =>
  obtain ⟨k,hk,rfl,hown,hA⟩:=hrel
  have HK:=hid hk
  have HOWN:=hid hown
  have HA:=hid hA
  obtain ⟨ua,uc,rfl⟩:=own_slice hown
  clear hk hown
  by_cases hlt:k < bl.length
  ·have HLT:=hid hlt
   have hkl:(k:Int) < (bl.length:Int):=by omega
   have hkb:k≤9223372036854775806:=by have:=HL16.out;omega
   obtain ⟨g,off,ia,im,ic,rfl,c0,c1,c2,c3,c4⟩:=blk_cells (HBB.out.below blkStays hA.below) hlt
   have HNK:=hid (fun wx=>HNX.out k hlt ia im ic wx)
   have HISK:=hid (HIS.out k hlt)
   have HCTK:=hid (HCT.out k)
   have HLN:=hid (aheadN_len bl j k)
   have HYES:=hid (aheadN_yes (l:=bl) (b:=j) (k:=k))
   have HNO:=hid (aheadN_no (l:=bl) (b:=j) (k:=k))
   have HSL:=hid (succ_len bl k)
   clear HNX HIS HCT hA
   generalize succ bl k=tl at *
   generalize toE (endAt bl k)=tx at *
   generalize endAt bl k=x at *
   obtain ⟨ek,ea,et,ee⟩:=x
   simp only at *
   go_wp2_with fail
   refine (HNK.out wr).mono ?_
   rintro e w2 ⟨u,rfl,hu,hb2⟩
   rw [← HISK.out] at hu
   have HA2:=hid (HA.out.go hb2)
   have HO2:=hid (ownsRow_below HOWN.out hb2)
   have HC2:=hid (contains_calls u (ints tl) (j:Int) w2 hu.1)
   rw [HCTK.out] at HC2
   clear HNK hb2 hu c0 c1 c2 c3 c4 HOWN HA HCTK
   by_cases hin:j∈tl
   ·rw [decide_eq_true hin] at HC2
    have HY:=hid (HYES.out hin)
    clear hin HYES HNO
    go_wp2_with fail
    refine HC2.out.mono ?_
    rintro e w3 ⟨rfl,rfl⟩
    have HO3:=hid (HO2.out.alloc (.cells #[.int .i64 k] 3))
    have HI3:=hid (ints_one (w:=w2.alloc (.cells #[.int .i64 k] 3)) (b:=w2.heap.size) (n:=k) (cell_new _ _ _ _ rfl) (size_new _ _ _ rfl))
    have hsz:w1.heap.size≤(w2.alloc (.cells #[.int .i64 k] 3)).heap.size:=Nat.le_trans HA2.out.size (alloc_below _ _).size
    have HA3:=hid (HA2.out.alloc (.cells #[.int .i64 k] 3))
    have hn3:(aheadN bl j k).length≤100000:=by have:=HLN.out;have:=HLT.out;have:=HL16.out;omega
    clear HC2
    go_wp2_with (at_builtin;refine wpList_append_intsN rfl (.tmp 34) (.tmp 36) rfl w1.heap.size (.slice ua (aheadN bl j k).length uc) rfl (aheadN bl j k).length (intVals (ints (aheadN bl j k))) HO3.out hn3 (.slice (some ⟨w2.heap.size,0,none⟩) 1 1) [(k:Int)] rfl HI3.out (by simp) hsz ?_)
    intro v7 w7 hown7 hgr7 hnr7
    have HO7:Hid (w7.ownsRow w1.heap.size 3 1 v7 (aheadN bl j (k+1)).length (intVals (ints (aheadN bl j (k+1))))):=by
     show World.ownsRow _ _ _ _ _ _ _
     rw [HY.out,ints_append,intVals_append,List.length_append]
     exact hown7
    have HA7:Hid (Aft w1 w7):=HA3.out.below.grown hgr7 hsz fun q hq=>(HO3.out.lt q hq).1
    obtain ⟨xa,xc,rfl⟩:=own_slice hown7
    clear hown7 hgr7 hnr7 HO3 HI3 HA3 HO2 HA2
    go_wp2
    go_roundg (gk - 1)
    case measure=>have:=HK.out;have:=HLT.out;omega
    case rel=>exact ⟨k+1,by have:=HK.out;have:=HLT.out;omega,by go_num,HO7.out,HA7.out⟩
   ·rw [decide_eq_false hin] at HC2
    have HY:=hid (HNO.out hin)
    clear hin HYES HNO
    go_wp2_with fail
    refine HC2.out.mono ?_
    rintro e w3 ⟨rfl,rfl⟩
    clear HC2
    go_wp2
    go_roundg (gk - 1)
    case measure=>have:=HK.out;have:=HLT.out;omega
    case rel=>exact ⟨k+1,by have:=HK.out;have:=HLT.out;omega,by go_num,by rw [HY.out];exact HO2.out,HA2.out⟩
  ·obtain rfl:k=bl.length:=by have:=HK.out;omega
   have HE:=hid ((HH1.out.trans hA).out HBW.out)
   have HS:=hid (Nat.le_trans HBW.out.size HH1.out.size)
   rw [aheadN_all] at HOWN ⊢
   have HLA:Hid ((aheadL bl j).length≤16):=by have:=aheadN_len bl j bl.length;rw [aheadN_all] at this;show _≤_;have:=HL16.out;omega
   clear hA HK hlt
   go_wp2
   go_ret2
   exact ⟨_,rfl,by rw [HN.out];exact newI_base (newI_of HOWN.out (by rw [ints_length];have:=HLA.out;omega)) HS.out,HE.out⟩

end Go.Proofs.YtpejpnffcepdlaaGreatDoor.FkV
namespace Go.Proofs.YtpejpnffcepdlaaGreatDoor.ShK
open Go.RowKit Go.Lib SetP IntO TyM TyP TyB TyC ShM ShP ShA ShB ShC ShE ShQ ShF ShG ShH ShI ShJ

def locate:List Bx→Nat→Nat × Nat
 | [],n=>(0,n)
 | b :: l,n=>if n < b.ins.length then (0,n) else ((locate l (n - b.ins.length)).1+1,(locate l (n - b.ins.length)).2)
theorem locate_of:∀ (l:List Bx) (n j i:Nat) (h:j < l.length),manyB (l.take j)+i=n→i < l[j].ins.length→locate l n=(j,i)
 | [],_,_,_,h,_,_=>by simp at h
 | b :: l,n,0,i,h,h1,h2=>by
  simp [manyB_nil] at h1
  subst h1
  unfold locate
  rw [if_pos (by simpa using h2)]
 | b :: l,n,j+1,i,h,h1,h2=>by
  rw [List.take_succ_cons,manyB_cons] at h1
  have ih:=locate_of l (n - b.ins.length) j i (by simpa using h) (by omega) (by simpa using h2)
  unfold locate
  rw [if_neg (by omega),ih]
theorem more_blocks {l:List Bx} {j n:Nat} (h:manyB (l.take j)≤n) (hn:n < manyB l):j < l.length:=by
 by_cases hj:j < l.length
 ·exact hj
 ·rw [List.take_of_length_le (by omega)] at h;omega
def fnP (p:Px) (f:Int):Fx:=(p.funcs[f.toNat]?).getD default
theorem fn_eq {p:Px} {f:Int} {k:Nat} {x:Fx} (h:Has1 p f k x):fnP p f=x:=by
 unfold fnP
 rw [h.eq,Int.toNat_natCast,h.at_];rfl
def placeE (p:Px) (f r:Int):Int:=if findP p f≠0 then findP p f else if 0≤r∧r < cntP p f then 0 else 2
def placeB (p:Px) (f r:Int):Int:=if placeE p f r≠0 then (0:Int) else if r < parOf p.types (fnP p f).sig then (-1:Int) else (((locate (fnP p f).blocks (r - parOf p.types (fnP p f).sig).toNat).1:Nat):Int)
def placeI (p:Px) (f r:Int):Int:=if placeE p f r≠0 then (0:Int) else if r < parOf p.types (fnP p f).sig then r else (((locate (fnP p f).blocks (r - parOf p.types (fnP p f).sig).toNat).2:Nat):Int)
end Go.Proofs.YtpejpnffcepdlaaGreatDoor.ShK
namespace Go.Proofs.YtpejpnffcepdlaaGreatDoor.ShK
open Go.RowKit Go.Lib SetP IntO TyM TyP TyB TyC ShM ShP ShA ShB ShC ShE ShQ ShF ShG ShH ShI ShJ

theorem cell_new_drew (w:World) (v:Value) (t:TypeId):(w.alloc (.cells #[v] t)).drew.cell? ⟨w.heap.size,0,none⟩=some v:=cell_new w v t _ rfl
theorem size_new_drew (w:World) (o:Obj):w.heap.size < (w.alloc o).drew.heap.size:=size_new w o _ rfl

theorem place_calls (p:Px) (f r:Int) (v:Value) (w:World) (hp:PrAt w v p) (htab:Tab w) (hs:Small p) (hok:POk p) (hr : -9223372036854775808≤r∧r≤9223372036854775807) :
  Calls Tryz.prog 18 #[v,.int .i64 f,.int .i64 r] w (ThreeR (placeB p f r) (placeI p f r) (placeE p f r) w):=by
 have hp0:=hp
 obtain ⟨vt,vf,rfl,ht,hf⟩:=hp
 have hb0:=alloc_below w (.cells #[vt,vf] 27)
 have HC:=hid (find_calls p f _ _ (hp0.below hb0) (htab.on hb0) hs hok)
 have HB0:=hid hb0
 have HPE:Hid (placeE p f r=if findP p f≠0 then findP p f else if 0≤r∧r < cntP p f then 0 else 2):=rfl
 have HPB:Hid (placeB p f r=if placeE p f r≠0 then (0:Int) else if r < parOf p.types (fnP p f).sig then (-1:Int) else (((locate (fnP p f).blocks (r - parOf p.types (fnP p f).sig).toNat).1:Nat):Int)):=rfl
 have HPI:Hid (placeI p f r=if placeE p f r≠0 then (0:Int) else if r < parOf p.types (fnP p f).sig then r else (((locate (fnP p f).blocks (r - parOf p.types (fnP p f).sig).toNat).2:Nat):Int)):=rfl
 generalize placeB p f r=pb at *
 generalize placeI p f r=pi at *
 generalize placeE p f r=pe at *
 by_cases hz:findP p f=0
 rotate_left
 ·rw [if_pos hz] at HPE
  rw [HPE.out] at HPB HPI
  rw [if_pos hz] at HPB HPI
  have e0:(findP p f != 0)=true:=by simpa using hz
  obtain ⟨ta,tc,rfl⟩:=ht.slice
  obtain ⟨fa,fc,rfl,hfl⟩:=hf.slice
  rw [HPE.out,HPB.out,HPI.out]
  clear ht hf htab hs hok hp0 hb0 hr HPE HPB HPI
  generalize findP p f=fe at *
  generalize p.types.length=n1 at *
  generalize p.funcs.length=n2 at *
  go_enter Tryz.func18,Tryz.ntmps18
  go_wp2_with fail
  refine HC.out.mono ?_
  rintro e w1 ⟨rfl,hb1⟩
  have hbe:=HB0.out.trans (hb1.mono HB0.out.size)
  clear HC hb1 hz
  go_wp2
  go_ret3
  exact ⟨rfl,hbe⟩
 rw [if_neg (fun e=>e hz)] at HPE
 rw [hz] at HC
 obtain ⟨k,x,h1⟩:=has1 hz
 rw [cnt_at h1] at HPE
 rw [fn_eq h1] at HPB HPI
 obtain ⟨fb,foff,fcap,vb,rfl,hfb,c0,c1,hbl⟩:=fn_at hf h1
 have hpl:=par_le hs.parts h1.sig0 h1.sig1
 have hmany:=h1.many
 have hle:parOf p.types x.sig+manyB x.blocks≤1000000:=by omega
 have HR:=hid (fun wx (hx:Below w.heap.size w wx)=>regs_calls p.types x vt (.slice (some ⟨fb,foff,none⟩) p.funcs.length fcap) vb wx (ht.below hx) ⟨_,_,_,rfl⟩ h1.sig0 h1.sig1 (hbl.below blkStays hx) hle)
 have HPA:=hid (fun wx (hx:Below w.heap.size w wx)=>params_calls p.types x vt (.slice (some ⟨fb,foff,none⟩) p.funcs.length fcap) vb wx (ht.below hx) ⟨_,_,_,rfl⟩ h1.sig0 h1.sig1 (hbl.below blkStays hx).slice)
 have HBL:=hid (fun (u:Value) (wx:World) (hv:IntsAt wx u [r])=>ShE.below_calls ((parOf p.types x.sig+manyB x.blocks:Nat):Int) u [r] wx hv)
 rw [low_one] at HBL
 have HBLK:=hid hbl
 obtain ⟨ta,tc,rfl⟩:=ht.slice
 obtain ⟨ba,bc,rfl,_⟩:=hbl.slice
 have hkl:(k:Int) < p.funcs.length:=by have:=h1.lt;omega
 have hk0:(0:Int)≤k:=by omega
 have hke:=h1.eq
 have HLT:=hid hfb
 have HC0:=hid c0
 have HC1:=hid c1
 have HMANY:Hid (manyB x.blocks≤128):=hmany
 have HPL:Hid (parOf p.types x.sig≤20000):=hpl
 have HMT:=hid (fun j (h:j < x.blocks.length)=>manyB_take h)
 have HML:=hid (manyB_le x.blocks)
 have HMB:=hid (fun j n (h1:manyB (x.blocks.take j)≤n) (h2:n < manyB x.blocks)=>more_blocks h1 h2)
 have HLO:=hid (locate_of x.blocks)
 have HRB:=hid hr
 have HJL:Hid (x.blocks.length≤16):=h1.blocks
 clear ht hf htab hs hok hp0 hb0 hz hbl hle h1 c0 c1 hmany hpl hr
 subst hke
 generalize hpar:parOf p.types x.sig=par at *
 have HPAR:=hid hpar
 clear hpar
 generalize p.types.length=n1 at *
 generalize p.funcs.length=n2 at *
 generalize hcnt:par+manyB x.blocks=cnt at *
 have HCNT:=hid hcnt
 clear hcnt
 generalize hin:decide (0≤r∧r < ((cnt:Nat):Int))=inr at *
 have HIN:=hid hin
 clear hin
 go_enter Tryz.func18,Tryz.ntmps18
 go_wp2_with fail
 refine HC.out.mono ?_
 rintro e w3 ⟨rfl,hb1⟩
 have hbe:=HB0.out.trans (hb1.mono HB0.out.size)
 obtain ⟨f1,_,s1,k1⟩:=copyF (alloc_new _ _) hb1 (by simp only [World.size_alloc];omega)
 have HK1:=hid k1
 have p0:=f1 0 (by simp);have p1:=f1 1 (by simp)
 simp only [List.getElem_toArray,List.getElem_cons_succ,List.getElem_cons_zero] at p0 p1
 have d0:=(hbe.cell (p:=⟨fb,foff+k * 2,none⟩) HLT.out).trans HC0.out
 have d1:=(hbe.cell (p:=⟨fb,foff+k * 2+1,none⟩) HLT.out).trans HC1.out
 have s2:=Nat.lt_of_lt_of_le HLT.out hbe.size
 clear HC hb1 f1 k1
 have HBE:=hid hbe
 have HBd:Hid (Below w.heap.size w w3.drew):=hbe.drew
 have HBd2:Hid (∀ o,Below w.heap.size w (w3.alloc o).drew):=fun o=>(HBE.out.alloc HBE.out.size o).drew
 clear hbe
 go_upto_region 4 with fail
 go_cut [26] (fun okv wc=>okv=.bool (!inr)∧Below w3.heap.size w3 wc)
 case first =>
  have HOS:=hid (old_start w3)
  generalize hn3:w3.heap.size=n3 at *
  have HN3:=hid hn3
  clear hn3
  have hs3:n3≤w3.heap.size:=Nat.le_of_eq HN3.out.symm
  have HOS2:Hid (n3≤w3.heap.size∧∀ b o,b < n3→w3.cell? ⟨b,o,none⟩=w3.cell? ⟨b,o,none⟩):=⟨hs3,fun _ _ _=>rfl⟩
  refine wp_region_noPanic ?_
  refine wp_region_held_drew (S:=(fun w'=>n3≤w'.heap.size∧∀ b o,b < n3→w'.cell? ⟨b,o,none⟩=w3.cell? ⟨b,o,none⟩)) (by kernel_rfl) ?_ (fun hHeld=>?_)
  ·(try dsimp only)
   (first | with_reducible exact HOS.out | with_reducible exact old_drew (old_alloc HOS2.out) | with_reducible exact old_alloc (by assumption) | with_reducible exact old_call (by assumption) (by assumption))
  refine wpAnyH_take (i:=0) (oi:={ dst:=some 16,op:=Go.Op.load 27 (Go.Operand.tmp 3),type:=27,pos := "shape.go:99",after:=#[],guard:=none }) (v:=?_) rfl (by kernel_rfl) (by kernel_rfl) (by kernel_rfl) (fun _ _ _ h=>h) (Or.inl ⟨by rfl,?_⟩) (by assumption) ?_
  rotate_left
  ·intro w hSw;(try dsimp only at hSw);go_simp;all_goals (try with_reducible rfl)
  try simp only [Act.put,List.setIfInBounds_toArray,List.set_cons_zero,List.set_cons_succ]
  refine wpAnyH_take (i:=1) (oi:={ dst:=some 17,op:=Go.Op.fieldAddr 27 (Go.Operand.tmp 3) 1,type:=0,pos := "shape.go:99",after:=#[],guard:=none }) (v:=?_) rfl (by kernel_rfl) (by kernel_rfl) (by kernel_rfl) (fun _ _ _ h=>h) (Or.inl ⟨by rfl,?_⟩) (by assumption) ?_
  rotate_left
  ·intro w hSw;(try dsimp only at hSw);go_simp;all_goals (try with_reducible rfl)
  try simp only [Act.put,List.setIfInBounds_toArray,List.set_cons_zero,List.set_cons_succ]
  refine wpAnyH_take (i:=2) (oi:={ dst:=some 18,op:=Go.Op.load 25 (Go.Operand.tmp 17),type:=25,pos := "shape.go:99",after:=#[{ on:=1,ground:=Go.Ground.data }],guard:=none }) (v:=?_) rfl (by kernel_rfl) (by kernel_rfl) (by kernel_rfl) (fun _ _ _ h=>h) (Or.inl ⟨by rfl,?_⟩) (by assumption) ?_
  rotate_left
  ·intro w hSw;(try dsimp only at hSw);go_simp;all_goals (try with_reducible rfl)
  try simp only [Act.put,List.setIfInBounds_toArray,List.set_cons_zero,List.set_cons_succ]
  refine wpAnyH_take (i:=3) (oi:={ dst:=some 19,op:=Go.Op.move (Go.Operand.tmp 1),type:=3,pos := "shape.go:99",after:=#[],guard:=none }) (v:=?_) rfl (by kernel_rfl) (by kernel_rfl) (by kernel_rfl) (fun _ _ _ h=>h) (Or.inl ⟨by rfl,?_⟩) (by assumption) ?_
  rotate_left
  ·intro w hSw;(try dsimp only at hSw);go_simp;all_goals (try with_reducible rfl)
  try simp only [Act.put,List.setIfInBounds_toArray,List.set_cons_zero,List.set_cons_succ]
  refine wpAnyH_take (i:=4) (oi:={ dst:=some 20,op:=Go.Op.indexAddr 25 (Go.Operand.tmp 18) (Go.Operand.tmp 19),type:=0,pos := "shape.go:99",after:=#[{ on:=2,ground:=Go.Ground.data },{ on:=3,ground:=Go.Ground.data }],guard:=none }) (v:=?_) rfl (by kernel_rfl) (by kernel_rfl) (by kernel_rfl) (fun _ _ _ h=>h) (Or.inl ⟨by rfl,?_⟩) (by assumption) ?_
  rotate_left
  ·intro w hSw;(try dsimp only at hSw);go_simp;all_goals (try with_reducible rfl)
  try simp only [Act.put,List.setIfInBounds_toArray,List.set_cons_zero,List.set_cons_succ]
  refine wpAnyH_take (i:=5) (oi:={ dst:=some 21,op:=Go.Op.load 41 (Go.Operand.tmp 20),type:=41,pos := "shape.go:99",after:=#[{ on:=4,ground:=Go.Ground.data }],guard:=none }) (v:=?_) rfl (by kernel_rfl) (by kernel_rfl) (by kernel_rfl) (fun _ _ _ h=>h) (Or.inl ⟨by rfl,?_⟩) (by assumption) ?_
  rotate_left
  ·intro w hSw;(try dsimp only at hSw);go_simp;all_goals (try with_reducible rfl)
  try simp only [Act.put,List.setIfInBounds_toArray,List.set_cons_zero,List.set_cons_succ]
  refine wpAnyH_take (i:=7) (oi:={ dst:=some 23,op:=Go.Op.move (Go.Operand.tmp 2),type:=3,pos := "shape.go:99",after:=#[],guard:=none }) (v:=?_) rfl (by kernel_rfl) (by kernel_rfl) (by kernel_rfl) (fun _ _ _ h=>h) (Or.inl ⟨by rfl,?_⟩) (by assumption) ?_
  rotate_left
  ·intro w hSw;(try dsimp only at hSw);go_simp;all_goals (try with_reducible rfl)
  try simp only [Act.put,List.setIfInBounds_toArray,List.set_cons_zero,List.set_cons_succ]
  refine wpAnyH_ready (rs:=[6,8]) (by kernel_rfl) (by simp) ?_
  refine AllReadyH.cons (o:={ dst:=some 22,op:=Go.Op.call { callee:=Go.Callee.value (Go.Operand.func 42),args:=#[Go.Operand.tmp 16,Go.Operand.tmp 21],argTypes:=#[27,41] },type:=3,pos := "shape.go:99",after:=#[{ on:=0,ground:=Go.Ground.data },{ on:=5,ground:=Go.Ground.data }],guard:=none }) rfl (fun K hK=>?_) ?_
  ·go_simp
   (go_at_call 42;(with_reducible refine (HR.out w3.drew HBd.out).mono ?_);rintro e w4 ⟨rfl,hb4⟩;have B4:=below_go (Below.refl n3 w3).drew hb4 hs3;have s4:=below_size hs3 B4)
   refine hK.out _ _ ?_ (fun hHeld=>?_)
   ·(try dsimp only)
    (first | with_reducible exact HOS.out | with_reducible exact old_drew (old_alloc HOS2.out) | with_reducible exact old_alloc (by assumption) | with_reducible exact old_call (by assumption) (by assumption))
   clear hK K
   try simp only [Act.put,List.setIfInBounds_toArray,List.set_cons_zero,List.set_cons_succ]
   refine wpAnyH_ready (rs:=[8]) (by kernel_rfl) (by simp) ?_
   refine AllReadyH.cons (o:={ dst:=some 24,op:=Go.Op.buildSlice 29 1 #[(0,Go.Operand.tmp 23)],type:=29,pos := "shape.go:99",after:=#[{ on:=7,ground:=Go.Ground.data }],guard:=none }) rfl (fun K hK=>?_) ?_
   ·go_simp
    refine hK.out _ _ ?_ (fun hHeld=>?_)
    ·(try dsimp only)
     (first | with_reducible exact HOS.out | with_reducible exact old_drew (old_alloc HOS2.out) | with_reducible exact old_alloc (by assumption) | with_reducible exact old_call (by assumption) (by assumption))
    clear hK K
    try simp only [Act.put,List.setIfInBounds_toArray,List.set_cons_zero,List.set_cons_succ]
    refine wpAnyH_ready (rs:=[9]) (by kernel_rfl) (by simp) ?_
    refine AllReadyH.cons (o:={ dst:=some 25,op:=Go.Op.call { callee:=Go.Callee.value (Go.Operand.func 41),args:=#[Go.Operand.tmp 22,Go.Operand.tmp 24],argTypes:=#[3,29] },type:=4,pos := "shape.go:99",after:=#[{ on:=6,ground:=Go.Ground.data },{ on:=8,ground:=Go.Ground.data },{ on:=6,ground:=Go.Ground.chain }],guard:=none }) rfl (fun K hK=>?_) ?_
    ·go_simp
     (go_at_call 41;(with_reducible refine (HBL.out _ _ (ints_one (cell_new w4 _ _ _ rfl) (size_new w4 _ _ rfl))).mono ?_);rintro e w5 ⟨rfl,hb5⟩;have B5:=below_go (B4.alloc s4 _) hb5 (Nat.le_trans s4 (alloc_below _ _).size))
     refine hK.out _ _ ?_ (fun hHeld=>?_)
     ·(try dsimp only)
      (first | with_reducible exact HOS.out | with_reducible exact old_drew (old_alloc HOS2.out) | with_reducible exact old_alloc (by assumption) | with_reducible exact old_call (by assumption) (by assumption))
     clear hK K
     try simp only [Act.put,List.setIfInBounds_toArray,List.set_cons_zero,List.set_cons_succ]
     refine wpAnyH_take (i:=10) (oi:={ dst:=some 26,op:=Go.Op.unOp Go.UnOp.not 4 (Go.Operand.tmp 25),type:=4,pos := "shape.go:99",after:=#[{ on:=9,ground:=Go.Ground.data }],guard:=none }) (v:=?_) rfl (by kernel_rfl) (by kernel_rfl) (by kernel_rfl) (fun _ _ _ h=>h) (Or.inl ⟨by rfl,?_⟩) (by assumption) ?_
     rotate_left
     ·intro w hSw;(try dsimp only at hSw);go_simp;all_goals (try with_reducible rfl)
     try simp only [Act.put,List.setIfInBounds_toArray,List.set_cons_zero,List.set_cons_succ]
     refine wpAnyH_done (by kernel_rfl) ?_ _
     refine NoPanic.normal ?_
     go_wp2_with fail
     go_meet
     case rel=>exact ⟨rfl,B5⟩
    exact AllReadyH.nil
   exact AllReadyH.nil
  refine AllReadyH.cons (o:={ dst:=some 24,op:=Go.Op.buildSlice 29 1 #[(0,Go.Operand.tmp 23)],type:=29,pos := "shape.go:99",after:=#[{ on:=7,ground:=Go.Ground.data }],guard:=none }) rfl (fun K hK=>?_) ?_
  ·go_simp
   refine hK.out _ _ ?_ (fun hHeld=>?_)
   ·(try dsimp only)
    (first | with_reducible exact HOS.out | with_reducible exact old_drew (old_alloc HOS2.out) | with_reducible exact old_alloc (by assumption) | with_reducible exact old_call (by assumption) (by assumption))
   clear hK K
   try simp only [Act.put,List.setIfInBounds_toArray,List.set_cons_zero,List.set_cons_succ]
   refine wpAnyH_ready (rs:=[6]) (by kernel_rfl) (by simp) ?_
   refine AllReadyH.cons (o:={ dst:=some 22,op:=Go.Op.call { callee:=Go.Callee.value (Go.Operand.func 42),args:=#[Go.Operand.tmp 16,Go.Operand.tmp 21],argTypes:=#[27,41] },type:=3,pos := "shape.go:99",after:=#[{ on:=0,ground:=Go.Ground.data },{ on:=5,ground:=Go.Ground.data }],guard:=none }) rfl (fun K hK=>?_) ?_
   ·go_simp
    (go_at_call 42;(with_reducible refine (HR.out _ (HBd2.out _)).mono ?_);rintro e w4 ⟨rfl,hb4⟩;have B4:=below_go ((Below.refl n3 w3).alloc hs3 _).drew hb4 (Nat.le_trans hs3 (alloc_below _ _).size);have s4:=below_size hs3 B4)
    refine hK.out _ _ ?_ (fun hHeld=>?_)
    ·(try dsimp only)
     (first | with_reducible exact HOS.out | with_reducible exact old_drew (old_alloc HOS2.out) | with_reducible exact old_alloc (by assumption) | with_reducible exact old_call (by assumption) (by assumption))
    clear hK K
    try simp only [Act.put,List.setIfInBounds_toArray,List.set_cons_zero,List.set_cons_succ]
    refine wpAnyH_ready (rs:=[9]) (by kernel_rfl) (by simp) ?_
    refine AllReadyH.cons (o:={ dst:=some 25,op:=Go.Op.call { callee:=Go.Callee.value (Go.Operand.func 41),args:=#[Go.Operand.tmp 22,Go.Operand.tmp 24],argTypes:=#[3,29] },type:=4,pos := "shape.go:99",after:=#[{ on:=6,ground:=Go.Ground.data },{ on:=8,ground:=Go.Ground.data },{ on:=6,ground:=Go.Ground.chain }],guard:=none }) rfl (fun K hK=>?_) ?_
    ·go_simp
     (go_at_call 41;(with_reducible refine (HBL.out _ _ (ints_one (keep_below hb4 (cell_new_drew w3 _ _)) (Nat.lt_of_lt_of_le (size_new_drew w3 _) hb4.size))).mono ?_);rintro e w5 ⟨rfl,hb5⟩;have B5:=below_go B4 hb5 s4)
     refine hK.out _ _ ?_ (fun hHeld=>?_)
     ·(try dsimp only)
      (first | with_reducible exact HOS.out | with_reducible exact old_drew (old_alloc HOS2.out) | with_reducible exact old_alloc (by assumption) | with_reducible exact old_call (by assumption) (by assumption))
     clear hK K
     try simp only [Act.put,List.setIfInBounds_toArray,List.set_cons_zero,List.set_cons_succ]
     refine wpAnyH_take (i:=10) (oi:={ dst:=some 26,op:=Go.Op.unOp Go.UnOp.not 4 (Go.Operand.tmp 25),type:=4,pos := "shape.go:99",after:=#[{ on:=9,ground:=Go.Ground.data }],guard:=none }) (v:=?_) rfl (by kernel_rfl) (by kernel_rfl) (by kernel_rfl) (fun _ _ _ h=>h) (Or.inl ⟨by rfl,?_⟩) (by assumption) ?_
     rotate_left
     ·intro w hSw;(try dsimp only at hSw);go_simp;all_goals (try with_reducible rfl)
     try simp only [Act.put,List.setIfInBounds_toArray,List.set_cons_zero,List.set_cons_succ]
     refine wpAnyH_done (by kernel_rfl) ?_ _
     refine NoPanic.normal ?_
     go_wp2_with fail
     go_meet
     case rel=>exact ⟨rfl,B5⟩
    exact AllReadyH.nil
   exact AllReadyH.nil
  exact AllReadyH.nil
 case rest =>
  obtain ⟨rfl,hbc⟩:=hcut
  have HBC:=hid hbc
  have hbw:=HBE.out.trans (hbc.mono HBE.out.size)
  clear p0 p1 d0 d1 s1 s2 HR HBL HBd HBd2
  obtain ⟨f1,_,s1,_⟩:=copyF HK1.out hbc (Array.getElem?_eq_some_iff.1 HK1.out).1
  have p0:=f1 0 (by simp);have p1:=f1 1 (by simp)
  simp only [List.getElem_toArray,List.getElem_cons_succ,List.getElem_cons_zero] at p0 p1
  have d0:=(hbw.cell (p:=⟨fb,foff+k * 2,none⟩) HLT.out).trans HC0.out
  have d1:=(hbw.cell (p:=⟨fb,foff+k * 2+1,none⟩) HLT.out).trans HC1.out
  have s2:=Nat.lt_of_lt_of_le HLT.out hbw.size
  clear f1 hbc
  cases inr with
  | false =>
   have HFE:Hid (pe=2):=by show _=_;rw [HPE.out,if_neg (of_decide_eq_false HIN.out)]
   have HFB:Hid (pb=0):=by show _=_;rw [HPB.out,HFE.out];rfl
   have HFI:Hid (pi=0):=by show _=_;rw [HPI.out,HFE.out];rfl
   clear HPE HPB HPI HPA HIN HBLK HMT HML HMB HLO HMANY
   go_wp2
   go_ret3
   exact ⟨by rw [HFE.out,HFB.out,HFI.out];rfl,hbw⟩
  | true =>
   have hinr:=of_decide_eq_true HIN.out
   have HFE:Hid (pe=0):=by show _=_;rw [HPE.out,if_pos hinr]
   rw [HFE.out] at HPB HPI
   rw [if_neg (fun e=>e rfl)] at HPB HPI
   have HR0:Hid (0≤r∧r < ((cnt:Nat):Int)):=hinr
   clear HPE HIN hinr
   obtain ⟨w6,hw6⟩:∃ w6,w6=wc:=⟨_,rfl⟩
   subst hw6
   have hsub:IntKind.i64.wrap (r - (par:Int))=r - par:=by
    rw [IntWalk.i64_in _ (by have:=HR0.out;have:=HPL.out;have:=HPAR.out;have:=HCNT.out;have:=HMANY.out;omega)]
   go_wp2_with fail
   have HPA1:=hid (HPA.out w6.drew hbw.drew)
   have HOS:=hid (old_start w6)
   have HBW:=hid hbw
   clear HPA hbw
   generalize hn6:w6.heap.size=n6 at *
   have HN6:=hid hn6
   clear hn6
   go_region_held3 (fun w'=>n6≤w'.heap.size∧∀ b o,b < n6→w'.cell? ⟨b,o,none⟩=w6.cell? ⟨b,o,none⟩)
    (first | with_reducible exact HOS.out | with_reducible exact old_call (by assumption) (by assumption))
    (first | (go_at_call 43;(with_reducible refine HPA1.out.mono ?_);rintro e w7 ⟨rfl,hb7⟩))
   all_goals
    have B7:=below_go (Below.refl n6 w6).drew hb7 (Nat.le_of_eq HN6.out.symm)
    have hb67:Below w6.heap.size w6 w7:=by rw [HN6.out];exact B7
    have HB7:=hid hb67
    have hbw7:=HBW.out.trans (hb67.mono HBW.out.size)
    clear p0 p1 d0 d1 s1 s2 HOS HPA1 hb7 B7
    have hb37:=HBC.out.trans (hb67.mono HBC.out.size)
    have HK7:=hid (keepBlk hb37 HK1.out)
    have HBW7:=hid hbw7
    clear hb67 hbw7 hb37 HBC HK1 HB7 HBW HN6
    by_cases hlt:r < (par:Int)
    ·rw [if_pos hlt] at HPB HPI
     have hneg:r - (par:Int) < 0:=by omega
     clear HBLK HMT HML HMB HLO hlt
     go_wp2
     go_ret3
     exact ⟨by rw [HFE.out,HPB.out,HPI.out];rfl,HBW7.out⟩
    ·rw [if_neg hlt] at HPB HPI
     obtain ⟨N,hN⟩:∃ N:Nat,r - (par:Int)=N:=⟨(r - par).toNat,by omega⟩
     have hNt:(r - (par:Int)).toNat=N:=by omega
     rw [hNt] at HPB HPI
     have hNlt:N < manyB x.blocks:=by have:=HR0.out;have:=HCNT.out;omega
     have HNL:=hid hNlt
     have hN300:N≤20000:=by have:=HMANY.out;omega
     rw [hN] at hsub ⊢
     clear hlt hNlt hNt hN HR0
     go_wp2_with fail
     go_loopg [6,7] x.blocks.length (fun gk bv av wr=>∃ j i:Nat,j+gk=x.blocks.length∧bv=.int .i64 j∧av=.int .i64 i∧manyB (x.blocks.take j)+i=N∧Below w7.heap.size w7 wr)
     case atStart=>exact ⟨0,N,by omega,rfl,rfl,by simp [manyB_nil],Below.refl _ _⟩
     case round =>
      obtain ⟨j,i,hj,rfl,rfl,hji,hbr⟩:=hrel
      have HJ:=hid hj
      have HJI:=hid hji
      have hjl:j < x.blocks.length:=HMB.out j N (by omega) HNL.out
      have hbwr:=HBW7.out.trans (hbr.mono HBW7.out.size)
      obtain ⟨f1,_,s1,_⟩:=copyF HK7.out hbr (Array.getElem?_eq_some_iff.1 HK7.out).1
      have p0:=f1 0 (by simp);have p1:=f1 1 (by simp)
      simp only [List.getElem_toArray,List.getElem_cons_succ,List.getElem_cons_zero] at p0 p1
      have d1:=(hbwr.cell (p:=⟨fb,foff+k * 2+1,none⟩) HLT.out).trans HC1.out
      obtain ⟨bb,boff,hba,hbb,vi,b0,b1,b2,b3,b4,hins⟩:=(HBLK.out.below blkStays hbwr).at j hjl
      subst hba
      obtain ⟨ia,ic,rfl,_⟩:=hins.slice
      have HMT2:=hid (HMT.out j hjl)
      have HLOC:=hid (HLO.out N j i hjl hji)
      have hil:x.blocks[j].ins.length≤20000:=by
       have h1:=HML.out (j+1)
       rw [HMT2.out] at h1
       have:=HMANY.out
       omega
      have hi300:i≤20000:=by omega
      have hjl16:j≤1000000:=by have:=HJ.out;have:=HJL.out;omega
      have hjn:(j:Int) < x.blocks.length:=by omega
      clear f1 hins hj hji b1 b2 b3 b4
      generalize x.blocks[j].ins.length=il at *
      clear HMT HLO HMB HBLK HML
      by_cases hge:il≤i
      ·have hgi:(il:Int)≤i:=by omega
       clear HLOC
       go_wp2
       all_goals (try (exfalso;omega))
       go_roundg (gk - 1)
       case measure=>have:=HJ.out;omega
       case rel=>exact ⟨j+1,i - il,by have:=HJ.out;omega,by go_num,by congr 1;omega,by have:=HJI.out;have:=HMT2.out;omega,hbr⟩
      ·have hgi:¬ (il:Int)≤i:=by omega
       have HL2:=hid (HLOC.out (by omega))
       go_wp2
       all_goals (try (exfalso;omega))
       go_ret3
       exact ⟨by rw [HFE.out,HPB.out,HPI.out,HL2.out];rfl,hbwr⟩
end Go.Proofs.YtpejpnffcepdlaaGreatDoor.ShK
namespace Go.Proofs.YtpejpnffcepdlaaGreatDoor.ShL
open Go.RowKit Go.Lib SetP IntO TyM TyP TyB TyC ShM ShP ShA ShB ShC ShE ShQ ShF ShG ShH ShI ShJ ShK

end Go.Proofs.YtpejpnffcepdlaaGreatDoor.ShL
namespace Go.Proofs.YtpejpnffcepdlaaGreatDoor.FdQ
open TyM ShM ShP ShE ShH ShI ShN ShJ ShK ShL FwM FwC FwP FwQ FdM

def askR (p:Px) (f b:Int):Int:=if askB p f b≠0 then askB p f b else if b.toNat∈reachedL (blsP p f) then 0 else 6
theorem askR_bad {p:Px} {f b:Int} (h:askB p f b≠0):askR p f b=askB p f b:=by unfold askR;rw [if_pos h]
theorem askR_in {p:Px} {f b:Int} (h:askB p f b=0) (hb:b.toNat∈reachedL (blsP p f)):askR p f b=0:=by unfold askR;rw [if_neg (fun e=>e h),if_pos hb]
theorem askR_out {p:Px} {f b:Int} (h:askB p f b=0) (hb:b.toNat∉reachedL (blsP p f)):askR p f b=6:=by unfold askR;rw [if_neg (fun e=>e h),if_neg hb]
def rulesE (p:Px) (f a b:Int):Int:=if askB p f a≠0 then askB p f a else askR p f b
def allL (l:List Bx):List Int:=(List.range l.length).map fun b=>if b∈reachedL l then rulerL l b else -1
def allD (p:Px) (f:Int):List Int:=if findP p f=0 then allL (blsP p f) else []
theorem reach_zero {p:Px} {f:Int} (ho:POk p) (h:findP p f=0):askR p f 0=0:=by
 refine askR_in (ask_first.trans h) ?_
 obtain ⟨h1,h2,_⟩:=low_fn ho h
 exact (reached_mem h1 h2 0).2 .here

/-! what is set -/
def isSetL (par:Nat) (l:List Bx) (r block pl:Int):Bool :=
 if r < par then true else if (((locate l (r - par).toNat).1:Nat):Int)=block then decide ((((locate l (r - par).toNat).2:Nat):Int) < pl) else ruledL l (locate l (r - par).toNat).1 block.toNat
end Go.Proofs.YtpejpnffcepdlaaGreatDoor.FdQ
namespace Go.Proofs.YtpejpnffcepdlaaGreatDoor.FdA
open Go.RowKit Go.Lib RwO SetP IntO TyM TyP TyB TyC ShM ShP ShA ShB ShC ShE ShH ShI ShJ Aft FwM FwC FwP FwQ FwR FvA FvB FvC FvP RwB FvD FdM FdQ

theorem ruled_calls (l:List Bx) (a b:Nat) (v:Value) (w:World) (hl:BlksAt w v l) (hlow:Low l) (ha:a < l.length) (hb:b < l.length) (hlen:l.length≤1000) :
  Calls Tryz.prog 205 #[v,.int .i64 a,.int .i64 b] w (BoolR (ruledL l a b) w):=by
 have hn0:0 < l.length:=by omega
 have HC:=hid (fun (but:Int) wx (h:Aft w wx)=>come_calls l [0] but v _ (wx.alloc (.cells #[.int .i64 0] 3)) (hl.below blkStays (h.alloc (.cells #[.int .i64 0] 3)).below) (ints_lit wx (ints [0]) 1 #[.int .i64 0] rfl rfl (by simp [ints])) hlow (fun x hx=>by rw [List.mem_singleton.1 hx];exact hn0) hlen)
 have HL1:Hid ((comeO (succ l) (-1) l.length [0]).length=l.length):=come_len _ _ _ _
 have HL2:Hid ((comeO (succ l) (a:Int) l.length [0]).length=l.length):=come_len _ _ _ _
 have HD:Hid (ruledL l a b=(decide (a=b) || (has (comeO (succ l) (-1) l.length [0]) a && !has (comeO (succ l) a l.length [0]) b))):=rfl
 obtain ⟨ao,cap,rfl,hll⟩:=hl.slice
 have h0:=Aft.refl w
 have HA:=hid ha
 have HB:=hid hb
 have HC1:=hid (HC.out (-1))
 have HC2:=hid (HC.out (a:Int))
 clear hl hlow ha hb hlen HC hn0
 generalize comeO (succ l) (-1) l.length [0]=B1 at *
 generalize comeO (succ l) (a:Int) l.length [0]=B2 at *
 generalize ruledL l a b=ans at *
 by_cases hab:a=b
 ·have hd:((a:Int) == (b:Int))=true:=by simp;omega
  rw [decide_eq_true hab,Bool.true_or] at HD
  clear HC1 HC2 hab
  go_enter Tryz.func205,Tryz.ntmps205
  go_wp2
  go_ret
  exact ⟨by rw [HD.out];rfl,Below.refl _ _⟩
 have hd:((a:Int) == (b:Int))=false:=beq_false_of_ne (by omega)
 rw [decide_eq_false hab,Bool.false_or] at HD
 clear hab
 have HCC:=hid (HC1.out w h0)
 clear HC1
 go_enter Tryz.func205,Tryz.ntmps205
 go_wp2_with fail
 refine HCC.out.mono ?_
 rintro e w1 ⟨g1,rfl,hr1,hb1⟩
 have h1:Aft w w1:=(h0.alloc _).go hb1
 obtain ⟨x,hx,_,hy,_⟩:=hr1.at a (by rw [HL1.out];exact HA.out)
 have hhx:=has_at hx
 have hal:a < B1.length:=by rw [HL1.out];exact HA.out
 rw [hhx] at HD
 have HE1:=hid h1.below
 clear HCC hb1 hr1 hx hhx
 cases x with
 | false =>
  rw [Bool.false_and] at HD
  clear HC2
  go_wp2
  go_ret
  exact ⟨by rw [HD.out];rfl,HE1.out⟩
 | true =>
  rw [Bool.true_and] at HD
  have HCD:=hid (HC2.out w1 h1)
  clear HC2
  go_wp2_with fail
  refine HCD.out.mono ?_
  rintro e w2 ⟨g2,rfl,hr2,hb2⟩
  have h2:Aft w w2:=(h1.alloc _).go hb2
  obtain ⟨y,hy,_,hyc,_⟩:=hr2.at b (by rw [HL2.out];exact HB.out)
  have hhy:=has_at hy
  have hbl:b < B2.length:=by rw [HL2.out];exact HB.out
  rw [hhy] at HD
  have HE2:=hid h2.below
  clear HCD hb2 hr2 hy hhy
  cases y with
  | true =>
   go_wp2
   go_ret
   exact ⟨by rw [HD.out];rfl,HE2.out⟩
  | false =>
   go_wp2
   go_ret
   exact ⟨by rw [HD.out];rfl,HE2.out⟩
end Go.Proofs.YtpejpnffcepdlaaGreatDoor.FdA
namespace Go.Proofs.YtpejpnffcepdlaaGreatDoor.FdK
open Go.RowKit Go.Lib SetP IntO TyM TyP TyB ShM ShP ShA ShI ShJ FwP FwQ FwR FwK FdM FdQ

def AllC:Prop:=∀ (p:Px) (f:Int) (v:Value) (w:World),PrAt w v p→Tab w→Small p→POk p→I64 f →
 Calls Tryz.prog 116 #[v,.int .i64 f] w (LstN (allD p f) (findP p f) w)
theorem AllC.e (h:AllC):∀ (p:Px) (f:Int) (v:Value) (w:World),PrAt w v p→Tab w→Small p→POk p→I64 f→Calls Tryz.prog 116 #[v,.int .i64 f] w (LstE (allD p f) (findP p f) w):=fun p f v w h1 h2 h3 h4 j1=>(h p f v w h1 h2 h3 h4 j1).mono fun _ _ h=>h.e
end Go.Proofs.YtpejpnffcepdlaaGreatDoor.FdK
