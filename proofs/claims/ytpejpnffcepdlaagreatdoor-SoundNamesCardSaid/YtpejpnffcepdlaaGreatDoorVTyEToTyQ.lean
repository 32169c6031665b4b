/- Walks over math/bits.Mul, slices.Repeat and types.parts. Walks over types.size and types.Check. Walks over types.Same and what it calls. -/
import Derived.Test.YtpejpnffcepdlaaGreatDoorVTyBToTyTI
import Derived.Shelf.Bits.Mul64
import Derived.Deep.RegionLaw
import Derived.Laws.MakeOwn
import Derived.Laws.CopyOwn
import Derived.StillTailTactics
set_option maxRecDepth 100000
set_option maxHeartbeats 16000000
namespace Go.Proofs.YtpejpnffcepdlaaGreatDoor.TyE
open Go.RowKit Go.Lib Go.Shelf SetP IntO TyM TyP TyB TyC TyD

theorem mul64_calls (y:Nat) (hy:y < 4294967296) (w:World) :
  Calls Tryz.prog 226 #[.int .u64 1,.int .u64 y] w fun e w'=>e=.returned (.tuple #[.int .u64 0,.int .u64 y])∧w=w':=by
 have k1:bits .and .u64 (1:Int) 4294967295=1:=by decide
 have k2:bits .and .u64 (y:Int) 4294967295=y:=by rw [Mul64.maskN y (by omega),Nat.mod_eq_of_lt hy]
 have k3:(y:Int) / 4294967296=0:=by omega
 have k4:bits .and .u64 (0:Int) 4294967295=0:=by decide
 have K:=hid (And.intro k1 (And.intro k2 (And.intro k3 k4)))
 clear k1 k2 k3 k4
 go_enter Tryz.func226,Tryz.ntmps226
 go_wp2_with (simp only [K.out.1,K.out.2.1,K.out.2.2.1,K.out.2.2.2])
 go_ret2
 exact ⟨rfl,rfl⟩

theorem mul_calls (y:Nat) (hy:y < 4294967296) (w:World) :
  Calls Tryz.prog 209 #[.int .u64 1,.int .u64 y] w fun e w'=>e=.returned (.tuple #[.int .u64 0,.int .u64 y])∧w=w':=by
 have HC:=hid (mul64_calls y hy w)
 go_enter Tryz.func209,Tryz.ntmps209
 go_wp2_with fail
 refine HC.out.mono ?_
 rintro e w1 ⟨rfl,rfl⟩
 go_wp2
 go_ret2
 exact ⟨rfl,rfl⟩

def NewV (w:World) (v:Value):Prop:=∀ g off n c,v=.slice (some ⟨g,off,none⟩) n c→w.heap.size≤g
theorem NewV.none (w:World):NewV w (.slice none 0 0):=fun _ _ _ _ e=>by cases e
def IntsR (l:List Int) (w:World) (e:Ending) (w' : World):Prop:=∃ v,e=.returned v∧IntsAt w' v l∧Below w.heap.size w w'∧NewV w v
def PartsR (l:List Int) (pv:Value) (w:World) (e:Ending) (w' : World):Prop:=∃ v,e=.returned v∧IntsAt w' v l∧Below w.heap.size w w'∧(v=pv∨NewV w v)

def Row (w:World) (g n m:Nat) (x:Value):Prop:=∃ cur:List Value,w.heap[g]?=some (.cells cur.toArray 3 (0,0))∧cur.length=m∧∀ i,i < n→cur[i]?=some x

theorem row_ints {w:World} {g m:Nat} {x:Int} (h:Row w g m m (.int .i64 x)) (hm:m≤100):IntsAt w (.slice (some ⟨g,0,none⟩) m m) (List.replicate m x):=by
 obtain ⟨cur,hg,hl,hc⟩:=h
 refine ⟨some ⟨g,0,none⟩,m,by simp,by simp;omega,fun _=>⟨g,0,rfl,(Array.getElem?_eq_some_iff.1 hg).1,fun i hi=>?_⟩,(fun h=>by cases h),by simp⟩
 have hi' : i < m:=by simpa using hi
 unfold World.cell?
 rw [hg]
 simpa using hc i hi'

theorem splice_length {α:Type} (L:List α) (off:Nat) (cs:List α) (h:off+cs.length≤L.length):(splice L off cs).length=L.length:=by
 simp [splice];omega
def SrcOk (w:World) (g off:Nat) (dp sp:Option Addr) (cs:List Value):Prop:=0 < cs.length→dp=some ⟨g,off,none⟩∧∃ ad,sp=some ad∧∀ j v,cs[j]?=some v→w.cell? (ad.add j)=some v
theorem one_cell {w:World} {b j:Nat} {x v:Value} (h:w.cell? ⟨b,0,none⟩=some x) (hj : [x][j]?=some v):w.cell? ((⟨b,0,none⟩:Addr).add j)=some v:=by
 have hj0:j=0:=by have:=(List.getElem?_eq_some_iff.1 hj).1;simpa using this
 subst hj0
 obtain rfl:v=x:=by simpa using hj.symm
 exact h
theorem row_first {w2:World} {g m:Nat} {x:Value} {mc:List Value} (hg2:w2.heap[g]?=some (.cells (splice mc 0 [x]).toArray 3 (0,0))) (h:0 + [x].length≤mc.length) (hm:mc.length=m):Row w2 g 1 m x :=
 ⟨_,hg2,by rw [splice_length _ _ _ h,hm],fun i hi=>by
  obtain rfl:i=0:=by omega
  simp [splice]⟩
theorem row_cell {w:World} {g n m d j:Nat} {x v:Value} (h:Row w g n m x) (hj:(List.replicate (min n d) x)[j]?=some v):w.cell? ((⟨g,0,none⟩:Addr).add j)=some v:=by
 obtain ⟨cur,hg,_,hc⟩:=h
 have hlt:=(List.getElem?_eq_some_iff.1 hj).1
 rw [List.length_replicate] at hlt
 obtain rfl:v=x:=by
  have:=List.mem_of_getElem? hj
  exact (List.mem_replicate.1 this).2
 have hadd:(⟨g,0,none⟩:Addr).add j=⟨g,j,none⟩:=by unfold Addr.add;split<;>simp_all
 rw [hadd]
 unfold World.cell?
 rw [hg]
 simpa using hc j (by omega)
theorem row_next {w2:World} {g n m:Nat} {x:Value} {cur:List Value} (hg2:w2.heap[g]?=some (.cells (splice cur n (List.replicate (min n (m - n)) x)).toArray 3 (0,0))) (hm:cur.length=m) (hc:∀ i,i < n→cur[i]?=some x) (hn:n≤m):Row w2 g (n+min n (m - n)) m x :=
 ⟨_,hg2,by rw [splice_length _ _ _ (by rw [hm,List.length_replicate];omega),hm],fun i hi=>by
  unfold splice
  by_cases h:i < n
  ·rw [List.getElem?_append_left (by rw [List.length_take];omega),List.getElem?_take,if_pos h]
   exact hc i h
  ·rw [List.getElem?_append_right (by rw [List.length_take];omega),List.length_take,List.getElem?_append_left (by rw [List.length_replicate];omega),List.getElem?_replicate,if_pos (by omega)]⟩
theorem sz_int:(Tryz.prog.info? 3).map (·.size)=some 1:=by kernel_rfl

theorem copy_row {w wr:World} {g n m:Nat} {x:Int} {cur:List Value} (hbe:Below g w wr) (hg:wr.heap[g]?=some (.cells cur.toArray 3 (0,0))) (hcl:cur.length=m) (hcc:∀ i,i < n→cur[i]?=some (Value.int .i64 x)) (hlt:n < m) :
  ∃ w4,(Builtin.copy_ #[29,29] 3 #[.slice (some ⟨g,n,none⟩) (m - n) (m - n),.slice (some ⟨g,0,none⟩) n m]).run Tryz.prog wr.drew=.ok (.int .i64 ((min n (m - n):Nat):Int)) w4∧Row w4 g (n+min n (m - n)) m (.int .i64 x)∧Below g w w4:=by
 have hgd:wr.drew.heap[g]?=some (.cells cur.toArray 3 (0,0)):=hg
 have hrun:=run_copy_row (P:=Tryz.prog) wr.drew 29 29 3 3 g n (m - n) (m - n) ⟨g,0,none⟩ n m cur.toArray 3 (List.replicate (min n (m - n)) (Value.int .i64 x)) Tryz.underlying29 sz_int hgd
  (by rw [List.length_replicate]) (fun j v hj=>row_cell ⟨cur,hgd,hcl,hcc⟩ hj) (by rw [List.length_replicate];simp;omega) (fun v hv=>by rw [(List.mem_replicate.1 hv).2];rfl)
 refine ⟨_,hrun.trans (by rw [List.length_replicate];rfl),row_next (cur:=cur) ?_ hcl hcc (by omega),below_setRow hbe.drew (Nat.le_refl _) _⟩
 have:=setRow_heap wr.drew g cur.toArray (cur.take n++List.replicate (min n (m - n)) (Value.int .i64 x)++cur.drop (n+(List.replicate (min n (m - n)) (Value.int .i64 x)).length)).toArray 3 (0,0) hgd
 simpa [splice,List.append_assoc] using this

theorem repeat_calls (b:Nat) (x:Int) (m:Nat) (h1:1≤m) (h2:m≤16) (w:World) (hc:w.cell? ⟨b,0,none⟩=some (.int .i64 x)) (hb:b < w.heap.size) :
  Calls Tryz.prog 190 #[.slice (some ⟨b,0,none⟩) 1 1,.int .i64 m] w (IntsR (List.replicate m x) w):=by
 obtain ⟨i0,hi,hz0,hz1,hz2⟩:=info_parts info_int
 have HC:=hid (mul_calls m (by omega) w)
 obtain ⟨mc,hM,hmk⟩:∃ mc:List Value,mc.length=m∧∀ wx:World,(Instr.makeSlice 29 (.int .i64 (m:Int)) (.int .i64 (m:Int))).run Tryz.prog wx=.ok (.slice (some ⟨wx.heap.size,0,none⟩) m m) (wx.alloc (.cells mc.toArray 3)):=by
  refine ⟨(madeCells (Value.int .i64 0).cells m).toList,by rw [Array.length_toList,size_madeCells],fun wx=>?_⟩
  have:=run_make (P:=Tryz.prog) wx 29 3 i0 (.int .i64 0) Tryz.underlying29 hi hz0 .i64 .i64 m m (by omega) (by omega) (by rw [hz2];omega) (by omega)
  rw [hz1,Int.toNat_natCast,Nat.mul_one] at this
  rw [Array.toArray_toList]
  exact this
 have hg0:=alloc_new w (.cells mc.toArray 3)
 have hb0:Below w.heap.size w (w.alloc (.cells mc.toArray 3)):=(Below.refl _ _).alloc (Nat.le_refl _) _
 have hc0:(w.alloc (.cells mc.toArray 3)).cell? ⟨b,0,none⟩=some (.int .i64 x):=(hb0.cell (p:=⟨b,0,none⟩) hb).trans hc
 have HM:=hid hM
 have HG0:=hid hg0
 have HC0:=hid hc0
 clear hM hg0 hc0
 have N1:Hid ([Value.int .i64 x].length=Nat.min 1 m):=by show 1=min 1 m;omega
 have N2:Hid (SrcOk (w.alloc (.cells mc.toArray 3)) w.heap.size 0 (some ⟨w.heap.size,0,none⟩) (some ⟨b,0,none⟩) [Value.int .i64 x]) :=
  fun _=>⟨rfl,_,rfl,fun j v hj=>one_cell HC0.out hj⟩
 have N3:Hid (0 + [Value.int .i64 x].length≤mc.length):=by show 0+1≤_;rw [HM.out];omega
 have N4:Hid (∀ v∈[Value.int .i64 x],v.oneCell'=true):=fun v hv=>by rw [List.mem_singleton.1 hv];rfl
 have HR:=hid (fun w2 (hg2:w2.heap[w.heap.size]?=some (.cells (splice mc 0 [Value.int .i64 x]).toArray 3 (0,0)))=>(row_first hg2 N3.out HM.out:Row w2 w.heap.size 1 m (.int .i64 x)))
 go_enter Tryz.func190,Tryz.ntmps190
 go_wp2_with fail
 refine HC.out.mono ?_
 rintro e w1 ⟨rfl,rfl⟩
 clear HC
 go_wp2_with (refine wpList_copy_splice rfl (.tmp 31) (.tmp 32) 29 29 rfl 3 Tryz.underlying29 sz_int (some ⟨w.heap.size,0,none⟩) (some ⟨b,0,none⟩) m m 1 1 rfl rfl w.heap.size 0 mc 3 HG0.out [.int .i64 x] N1.out N2.out N3.out N4.out w.heap.size w hb0 (Nat.le_refl _) ?_;intro w2 hg2 hb2)
 have HR2:=hid (HR.out w2 hg2.out)
 clear hg2 HG0 HC0 hb0 N1 N2 N3 N4 HR
 go_loopg [8] m (fun gk i wr=>∃ n:Nat,1≤n∧n≤m∧m - n≤gk∧i=.int .i64 n∧Row wr w.heap.size n m (.int .i64 x)∧Below w.heap.size w wr)
 case atStart=>exact ⟨1,by omega,by omega,by omega,rfl,HR2.out,hb2⟩
 case round =>
  obtain ⟨n,hn1,hn2,hgk,rfl,hrow,hbe⟩:=hrel
  have HRO:=hid hrow
  obtain ⟨cur,hg,hcl,hcc⟩:=hrow
  by_cases hlt:n < m
  ·obtain ⟨w4,hcp,hrow4,hb4⟩:=copy_row hbe hg hcl hcc hlt
   have HR4:=hid hrow4
   have hne:¬ m=n:=by omega
   have hd1:1≤min n (m - n):=by omega
   have hd2:n+min n (m - n)≤m:=by omega
   clear hg hcl hcc hrow4 HRO
   generalize min n (m - n)=d at *
   go_wp2
   go_region
   go_wp2
   go_roundg (gk - 1)
   case measure=>omega
   case rel=>exact ⟨n+d,by omega,by omega,by omega,by go_num,HR4.out,hb4⟩
  ·obtain rfl:n=m:=by omega
   clear hg hcl hcc
   go_wp2
   go_ret
   exact ⟨_,rfl,row_ints HRO.out (by omega),hbe,fun g off n c e=>by cases e;exact Nat.le_refl _⟩

theorem parts_calls (x:Ty) (pv:Value) (w:World) (hp:IntsAt w pv x.parts) (hm:x.kind=5→1≤x.many∧x.many≤16) :
  Calls Tryz.prog 155 #[tyV x pv] w (PartsR (partsOf x) pv w):=by
 have HP:=hid hp
 obtain ⟨pa,pc,rfl,hpl⟩:=ints_slice hp
 have hb0:Below w.heap.size w (w.alloc (.cells #[.int .u8 x.kind,.int .i64 x.elem,.int .i64 x.many,.slice pa x.parts.length pc] 43)):=(Below.refl _ _).alloc (Nat.le_refl _) _
 have HPA:=hid (hp.below hb0)
 clear hp
 by_cases h4:x.kind=4
 ·rw [partsOf_struct h4]
  clear hm
  obtain ⟨xk,xe,xm,xp⟩:=x
  simp only at *
  subst h4
  generalize xp.length=n at *
  go_enter Tryz.func155,Tryz.ntmps155
  go_wp2
  go_ret
  exact ⟨_,rfl,HPA.out,hb0,.inl rfl⟩
 by_cases h5:x.kind=5
 ·rw [partsOf_array h5]
  obtain ⟨m1,m2⟩:=hm h5
  clear hm
  obtain ⟨xk,xe,xm,xp⟩:=x
  simp only at *
  obtain ⟨m,rfl⟩:∃ m:Nat,xm=m:=⟨xm.toNat,by omega⟩
  subst h5
  rw [Int.toNat_natCast]
  generalize xp.length=n at *
  have hb1:=hb0.alloc (by simp) (.cells #[.int .i64 xe] 3)
  have HC:=hid (repeat_calls (w.heap.size+1) xe m (by omega) (by omega) ((w.alloc (.cells #[.int .u8 5,.int .i64 xe,.int .i64 m,.slice pa n pc] 43)).alloc (.cells #[.int .i64 xe] 3)) (by simp) (by simp))
  clear HPA HP h4
  go_enter Tryz.func155,Tryz.ntmps155
  go_wp2_with fail
  refine HC.out.mono ?_
  rintro e w1 ⟨v,rfl,hv,hb2,hnew⟩
  have HV:=hid hv
  have HNW:Hid (NewV w v):=fun g off n c e=>Nat.le_trans hb1.size (hnew g off n c e)
  have hbe:=hb1.trans (hb2.mono hb1.size)
  clear hv hb2 hnew
  go_wp2
  go_ret
  exact ⟨v,rfl,HV.out,hbe,.inr HNW.out⟩
 ·rw [partsOf_other h4 h5]
  clear hm
  obtain ⟨xk,xe,xm,xp⟩:=x
  simp only at *
  generalize xp.length=n at *
  have e4:(xk == 4)=false:=by simpa using h4
  have e5:(xk == 5)=false:=by simpa using h5
  clear h4 h5
  go_enter Tryz.func155,Tryz.ntmps155
  go_wp2
  go_ret
  exact ⟨_,rfl,ints_none _,hb0,.inr (NewV.none _)⟩
end Go.Proofs.YtpejpnffcepdlaaGreatDoor.TyE
namespace Go.Proofs.YtpejpnffcepdlaaGreatDoor.TyS
open Go.RowKit Go.Lib SetP IntO TyM TyP TyB TyC TyD TyE

def IntR (n:Int) (w:World) (e:Ending) (w' : World):Prop:=e=.returned (.int .i64 n)∧Below w.heap.size w w'

def Fit (t:List Ty) (p:Int):Prop:=0≤p∧p < t.length∧mayB t p.toNat=true∧Lows t p.toNat
theorem fit_at {t:List Ty} {p:Int} (h:Fit t p):∃ (n:Nat) (x:Ty),p=n∧n < t.length∧t[n]?=some x∧mayX t n x=true∧Lows t n:=by
 obtain ⟨h0,h1,h2,h3⟩:=h
 have hlt:p.toNat < t.length:=by omega
 have hx:=List.getElem?_eq_getElem hlt
 rw [mayB_at hx] at h2
 exact ⟨p.toNat,_,by omega,hlt,hx,h2,h3⟩
theorem fit_part {t:List Ty} {n:Nat} {x:Ty} (hn:n < t.length) (hm:mayX t n x=true) (hl:Lows t n):∀ p∈partsOf x,Fit t p∧p < n:=by
 intro p hp
 have:=mayX_low hm p hp
 obtain ⟨y,hy,hmy,_⟩:=goodB_iff.1 (hl p.toNat (by omega))
 exact ⟨⟨this.1,by omega,by rw [mayB_at hy];exact hmy,hl.mono (by omega)⟩,this.2⟩
theorem len_cells {t:List Ty} {n:Nat} {x:Ty} (hx:t[n]?=some x) (hm:mayX t n x=true):(cellsOf t n).length=(if scalarK x.kind=true then 1 else 0)+(cellsAll t (partsOf x)).length:=by
 cases hs:scalarK x.kind with
 | true=>rw [cellsOf_scalar hx hs,partsOf_scalar hs];simp [cellsAll]
 | false =>
  rcases mayX_kind hm with h | h
  ·rw [hs] at h;cases h
  ·rw [cellsOf_parts hx h (mayX_low hm)];simp
theorem len_parts {t:List Ty} {n:Nat} {x:Ty} (hm:mayX t n x=true) (hl:Lows t n):(cellsAll t (partsOf x)).length≤512:=by
 have:=lows_cells hl (mayX_low hm)
 have:=mayX_parts hm
 omega
theorem len_fit {t:List Ty} {p:Int} (h:Fit t p):(cellsOf t p.toNat).length≤513:=by
 obtain ⟨n,x,rfl,hlt,hx,hm,hl⟩:=fit_at h
 rw [Int.toNat_natCast,len_cells hx hm]
 have:=len_parts hm hl
 split<;>omega
theorem len_fits {t:List Ty} {l:List Int} (h:∀ p∈l,Fit t p):(cellsAll t l).length≤l.length * 513:=cellsAll_length t 513 l fun p hp=>len_fit (h p hp)

theorem size_any (B:Nat):∀ (t:List Ty) (v va:Value) (l:List Int) (w:World),TysAt w v t→IntsAt w va l→l.length≤16→(∀ p∈l,Fit t p∧p < B) →
  Calls Tryz.prog 108 #[v,va] w (IntR ((cellsAll t l).length:Nat) w):=by
 induction B with
 | zero =>
  intro t v va l w ht hl hlen hf
  obtain rfl:l=[]:=by
   cases l with
   | nil=>rfl
   | cons p l=>obtain ⟨⟨h0,_⟩,h1⟩:=hf p (by simp);omega
  obtain ⟨ao,cap,rfl,_⟩:=ints_slice hl
  clear hl hf ht
  go_enter Tryz.func108,Tryz.ntmps108
  go_wp2
  go_loop [5,10] (fun m i=>m=.int .i64 0∧i=.int .i64 0) (fun _ _=>0)
  case atStart=>exact ⟨rfl,rfl⟩
  case round =>
   obtain ⟨rfl,rfl⟩:=hrel
   go_wp2
   go_ret
   exact ⟨rfl,Below.refl _ _⟩
 | succ B ih =>
  intro t v va l w ht hl hlen hf
  have IH:=hid ih
  have HT:=hid ht
  have HL:=hid hl
  have HF:=hid hf
  have HN:=hid (fun k=>len_fits (t:=t) (l:=l.take k) fun p hp=>(hf p (List.mem_of_mem_take hp)).1)
  obtain ⟨ao,cap,rfl,hll⟩:=ints_slice hl
  obtain ⟨to,tcap,rfl⟩:=ht.slice
  clear ih ht hl hf
  go_enter Tryz.func108,Tryz.ntmps108
  go_wp2
  go_loopg [5,10] l.length (fun gk m i wr=>∃ k:Nat,k+gk=l.length∧i=.int .i64 k∧m=.int .i64 ((cellsAll t (l.take k)).length:Nat)∧Below w.heap.size w wr)
  case atStart=>exact ⟨0,by omega,rfl,rfl,Below.refl _ _⟩
  case round =>
   obtain ⟨k,hk,rfl,rfl,hbe⟩:=hrel
   have HK:=hid hk
   by_cases hlt:k < l.length
   ·obtain ⟨b,off,rfl,hbs,hc⟩:=ints_at (HL.out.below hbe) k hlt
    obtain ⟨hfit,hB⟩:=HF.out _ (List.getElem_mem hlt)
    have HS:Hid ((cellsAll t (l.take (k+1))).length=(cellsAll t (l.take k)).length+(cellsOf t l[k].toNat).length):=by show _=_;rw [cellsAll_take t hlt,List.length_append]
    have hn:=HN.out k
    rw [List.length_take] at hn
    have hn2:(cellsAll t (l.take k)).length≤10000:=by omega
    clear hn hk
    generalize l[k]=p at *
    generalize (cellsAll t (l.take k)).length=many at *
    obtain ⟨n,x,rfl,hnt,hx,hm,hlow⟩:=fit_at hfit
    rw [Int.toNat_natCast] at HS
    have hlp:=len_parts hm hlow
    have HLC:=hid (len_cells hx hm)
    obtain ⟨tb,toff,rfl,htb,pv,c0,c1,c2,c3,hp⟩:=(HT.out.below hbe).at n hnt
    have hxe:t[n]=x:=by rw [List.getElem?_eq_getElem hnt] at hx;exact Option.some.inj hx
    rw [hxe] at c0 c1 c2 hp
    have HSC:=hid (scalar_calls x pv wr)
    have HPC:=hid (fun w1 (hb:Below wr.heap.size wr w1)=>parts_calls x pv w1 (hp.below hb) (fun h5=>⟨(mayX_array hm h5).1,(mayX_array hm h5).2.1⟩))
    have HSZ:=hid (fun w1 v' hw h2=>IH.out t (.slice (some ⟨tb,toff,none⟩) t.length tcap) v' (partsOf x) w1 (HT.out.below hw) h2 (mayX_parts hm) (fun q hq=>⟨(fit_part hnt hm hlow q hq).1,by have:=(fit_part hnt hm hlow q hq).2;omega⟩))
    obtain ⟨pa,pc,rfl,hpl⟩:=ints_slice hp
    clear hp hfit hB hxe hx hm hlow
    generalize (cellsAll t (partsOf x)).length=add at *
    generalize (cellsOf t n).length=tot at *
    cases hs:scalarK x.kind <;>
    ·rw [hs] at HSC HLC
     clear hs
     go_wp2_with fail
     refine HSC.out.mono ?_
     rintro e w1 ⟨rfl,hb1⟩
     have hbe1:=hbe.trans (hb1.mono hbe.size)
     have HP1:=hid (HPC.out w1 hb1)
     have hcc:=bcell hb1
     clear hb1 HPC HSC
     go_wp2_with fail
     refine HP1.out.mono ?_
     rintro e w2 ⟨v2,rfl,hv2,hb2,_⟩
     have hbe2:=hbe1.trans (hb2.mono hbe1.size)
     have HS2:=hid (HSZ.out w2 v2 hbe2 hv2)
     clear hb2 hcc hv2 hbe1
     go_wp2_with fail
     refine HS2.out.mono ?_
     rintro e w3 ⟨rfl,hb3⟩
     have hbe3:=hbe2.trans (hb3.mono hbe2.size)
     clear hb3 hbe2
     go_wp2
     go_roundg (gk - 1)
     case measure=>have:=HK.out;omega
     case rel=>exact ⟨k+1,by have:=HK.out;omega,by go_num,by have h1:=HS.out;have h2:=HLC.out;simp at h2;rw [h1,h2];go_num,hbe3⟩
   ·obtain rfl:k=l.length:=by omega
    rw [List.take_length]
    go_wp2
    go_ret
    exact ⟨rfl,hbe⟩

theorem len_one (t:List Ty) (n:Nat):(cellsAll t [(n:Int)]).length=(cellsOf t n).length:=by rw [cellsAll_cons,cellsAll_nil,List.append_nil,Int.toNat_natCast]
theorem good_no {t:List Ty} {k:Nat} {x:Ty} (hx:t[k]?=some x) (h:mayX t k x=false):goodB t k=false:=by unfold goodB;rw [mayB_at hx,h];rfl
theorem good_big {t:List Ty} {k:Nat} (h:32 < (cellsOf t k).length):goodB t k=false:=by unfold goodB;simp;intro _;omega
theorem good_yes {t:List Ty} {k:Nat} {x:Ty} (hx:t[k]?=some x) (h:mayX t k x=true) (hc:(cellsOf t k).length≤32):goodB t k=true:=by unfold goodB;rw [mayB_at hx,h];simpa using hc
theorem lows_succ {t:List Ty} {k:Nat} (h:Lows t k) (hg:goodB t k=true):Lows t (k+1):=fun j hj=>by
 by_cases e:j=k
 ·rw [e];exact hg
 ·exact h j (by omega)

theorem check_calls (t:List Ty) (v:Value) (w:World) (ht:TysAt w v t):Calls Tryz.prog 67 #[v] w (IntR (chkT t) w):=by
 have HT:=hid ht
 obtain ⟨to,tcap,rfl⟩:=ht.slice
 clear ht
 by_cases hmany:16 < t.length
 ·rw [chkT_many hmany]
  generalize t.length=n at *
  go_enter Tryz.func67,Tryz.ntmps67
  go_wp2
  go_ret
  exact ⟨rfl,Below.refl _ _⟩
 ·have hlen:t.length≤16:=by omega
  have hle:¬ (16:Int) < t.length:=by omega
  clear hmany
  go_enter Tryz.func67,Tryz.ntmps67
  go_wp2
  go_loopg [9] t.length (fun gk i wr=>∃ k:Nat,k+gk=t.length∧i=.int .i64 k∧Lows t k∧Below w.heap.size w wr)
  case atStart=>exact ⟨0,by omega,rfl,fun j hj=>absurd hj (by omega),Below.refl _ _⟩
  case round =>
   obtain ⟨k,hk,rfl,hlow,hbe⟩:=hrel
   have HK:=hid hk
   have HLOW:=hid hlow
   by_cases hlt:k < t.length
   ·have hx:=List.getElem?_eq_getElem hlt
    have HM:=hid (may_calls t _ k _ wr (HT.out.below hbe) hx)
    have HX:=hid hx
    generalize t[k]=x at *
    have HSZ:=hid (fun (hm:mayX t k x=true) wx b (hw:Below w.heap.size w wx) (hc:wx.cell? ⟨b,0,none⟩=some (.int .i64 (k:Int))) hb=>size_any (k+1) t _ (.slice (some ⟨b,0,none⟩) 1 1) [(k:Int)] wx (HT.out.below hw) (ints_one hc hb) (by simp) (fun p hp=>by
     obtain rfl:=List.mem_singleton.1 hp
     exact ⟨⟨by omega,by omega,by rw [Int.toNat_natCast,mayB_at HX.out];exact hm,HLOW.out⟩,by omega⟩))
    have HFIT:=hid (fun (hm:mayX t k x=true)=>len_fit (t:=t) (p:=(k:Int)) ⟨by omega,by omega,by rw [Int.toNat_natCast,mayB_at HX.out];exact hm,HLOW.out⟩)
    clear hx hlow hk
    cases hm:mayX t k x with
    | false =>
     rw [hm] at HM
     have HE:=hid (chkT_bad hlen hlt (good_no HX.out hm))
     clear hm HSZ HFIT
     generalize t.length=n at *
     go_wp2_with fail
     refine HM.out.mono ?_
     rintro e w1 ⟨rfl,hb1⟩
     have hbe1:=hbe.trans (hb1.mono hbe.size)
     clear hb1
     go_wp2
     go_ret
     exact ⟨by rw [HE.out];rfl,hbe1⟩
    | true =>
     rw [hm] at HM
     have HS2:=hid (HSZ.out hm)
     have hfit:=HFIT.out hm
     have HY:=hid (fun h=>lows_succ HLOW.out (good_yes HX.out hm h))
     have HE:=hid (fun (h:32 < (cellsOf t k).length)=>chkT_bad hlen hlt (good_big h))
     rw [len_one] at HS2
     rw [Int.toNat_natCast] at hfit
     clear hm HSZ HFIT
     generalize (cellsOf t k).length=cn at *
     generalize t.length=n at *
     go_wp2_with fail
     refine HM.out.mono ?_
     rintro e w1 ⟨rfl,hb1⟩
     have hbe1:=(hbe.trans (hb1.mono hbe.size)).alloc (by have:=hbe.size;have:=hb1.size;omega) (.cells #[.int .i64 (k:Int)] 3)
     have HS3:=hid (HS2.out (w1.alloc (.cells #[.int .i64 (k:Int)] 3)) w1.heap.size hbe1 (by simp) (by simp))
     clear hb1 HS2
     by_cases hbig:32 < cn
     ·have hbi:(32:Int) < cn:=by omega
      have HE2:=hid (HE.out hbig)
      clear HE HY hbig
      go_wp2_with fail
      refine HS3.out.mono ?_
      rintro e w2 ⟨rfl,hb2⟩
      have hbe2:=hbe1.trans (hb2.mono hbe1.size)
      clear hb2
      go_wp2
      go_ret
      exact ⟨by rw [HE2.out];rfl,hbe2⟩
     ·have hbi:¬ (32:Int) < cn:=by omega
      have HY2:=hid (HY.out (by omega))
      clear HE HY hbig
      go_wp2_with fail
      refine HS3.out.mono ?_
      rintro e w2 ⟨rfl,hb2⟩
      have hbe2:=hbe1.trans (hb2.mono hbe1.size)
      clear hb2
      go_wp2
      go_roundg (gk - 1)
      case measure=>have:=HK.out;omega
      case rel=>exact ⟨k+1,by have:=HK.out;omega,by go_num,HY2.out,hbe2⟩
   ·obtain rfl:k=t.length:=by omega
    have HE:=hid (chkT_ok hlen hlow)
    clear hlow
    generalize t.length=n at *
    go_wp2
    go_ret
    exact ⟨by rw [HE.out];rfl,hbe⟩
end Go.Proofs.YtpejpnffcepdlaaGreatDoor.TyS
namespace Go.Proofs.YtpejpnffcepdlaaGreatDoor.TyQ
open Go.RowKit Go.Lib Go.Shelf SetP IntO TyM TyP TyB TyC TyD TyE TyS

theorem equal_calls (va vb:Value) (a b:List Int) (w:World) (ha:IntsAt w va a) (hb:IntsAt w vb b) :
  Calls Tryz.prog 162 #[va,vb] w (BoolR (decide (a=b)) w):=by
 have HA:=hid ha
 have HB:=hid hb
 obtain ⟨ao,ac,rfl,hla⟩:=ints_slice ha
 obtain ⟨bo,bc,rfl,hlb⟩:=ints_slice hb
 clear ha hb
 by_cases hlen:a.length=b.length
 ·have HL:=hid hlen
  have HPA:=hid (pre_all (a:=a) (b:=b) hlen)
  rw [← hlen] at hlb ⊢
  rw [← hlen] at HB
  clear hlen
  go_enter Tryz.func162,Tryz.ntmps162
  go_wp2
  go_loopg [13] a.length (fun gk i wr=>∃ k:Nat,k+gk=a.length∧i=.int .i64 k∧Pre a b k∧Below w.heap.size w wr)
  case atStart=>exact ⟨0,by omega,rfl,rfl,Below.refl _ _⟩
  case round =>
   obtain ⟨k,hk,rfl,hpre,hbe⟩:=hrel
   have HK:=hid hk
   have HPRE:=hid hpre
   clear hpre
   by_cases hlt:k < a.length
   ·have hltb:k < b.length:=by rw [← HL.out];exact hlt
    obtain ⟨ab,aoff,rfl,_,ca⟩:=ints_at (HA.out.below hbe) k hlt
    obtain ⟨bb,boff,rfl,_,cb⟩:=ints_at (HB.out.below hbe) k hltb
    have HE:=hid (pre_succ hlt hltb HPRE.out)
    have HN:=hid (ne_at hlt hltb)
    clear hk
    generalize a[k]=x at *
    generalize b[k]=y at *
    by_cases hxy:x=y
    ·have HE2:=hid (HE.out hxy)
     have hd:(x != y)=false:=by simpa using hxy
     clear hxy HE HN
     go_wp2
     go_quiet (fail)
     obtain ⟨wd,hwd⟩:∃ wd:World,wd=wr.drewN nq:=⟨_,rfl⟩
     have hbd:Below w.heap.size w wd:=by rw [hwd];exact below_drewN hbe nq
     rw [← hwd]
     clear hwd
     go_wp2
     go_roundg (gk - 1)
     case measure=>have:=HK.out;omega
     case rel=>exact ⟨k+1,by have:=HK.out;omega,by go_num,HE2.out,hbd⟩
    ·have hd:(x != y)=true:=by simpa using hxy
     have HNE:=hid (HN.out hxy)
     clear HE HN hxy
     go_wp2
     go_quiet (fail)
     obtain ⟨wd,hwd⟩:∃ wd:World,wd=wr.drewN nq:=⟨_,rfl⟩
     have hbd:Below w.heap.size w wd:=by rw [hwd];exact below_drewN hbe nq
     rw [← hwd]
     clear hwd
     go_wp2
     go_ret
     exact ⟨by rw [decide_eq_false HNE.out];rfl,hbd⟩
   ·obtain rfl:k=a.length:=by omega
    have HEQ:=hid (HPA.out HPRE.out)
    clear hk
    generalize a.length=n at *
    go_wp2
    go_ret
    exact ⟨by rw [decide_eq_true HEQ.out];rfl,hbe⟩
 ·have hne:a≠b:=fun e=>hlen (by rw [e])
  rw [decide_eq_false hne]
  have hd:((a.length:Int) != (b.length:Int))=true:=by simp;omega
  clear hne hlen
  generalize a.length=n at *
  generalize b.length=m at *
  go_enter Tryz.func162,Tryz.ntmps162
  go_wp2
  go_ret
  exact ⟨rfl,Below.refl _ _⟩



end Go.Proofs.YtpejpnffcepdlaaGreatDoor.TyQ
