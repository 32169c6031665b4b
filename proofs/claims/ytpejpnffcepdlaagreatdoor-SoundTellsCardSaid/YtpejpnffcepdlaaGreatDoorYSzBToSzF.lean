/- A function's body in memory; walks over sound's are, scalar, under, points, calls, typ. Walks over sound's scalar, under, points, calls, typ. Walks over sound's set and read. Walks over sound's fits: one type, or what is read of one kind. -/
import Derived.Test.YtpejpnffcepdlaaGreatDoorYSwXToSzM
import Derived.Test.YtpejpnffcepdlaaGreatDoorYSzE
import Derived.Test.YtpejpnffcepdlaaGreatDoorYTyEToTyQ
import Derived.Test.YtpejpnffcepdlaaGreatDoorYFvEToFdK
import Derived.Test.YtpejpnffcepdlaaGreatDoorYShBToShW
import Derived.Test.YtpejpnffcepdlaaGreatDoorYSvQToSwU
import Derived.Test.YtpejpnffcepdlaaGreatDoorYResT
set_option maxRecDepth 100000
set_option maxHeartbeats 16000000
namespace Go.Proofs.YtpejpnffcepdlaaGreatDoor.SzB
open Go.RowKit Go.Lib SetP IntO TyM TyP TyB TyC TyQ ShM ShP ShA ShB ShC ShI ShJ Aft FwP FwQ IntG BlkG LvM SvQ SvP SwA SzM SzE

/-! a list and a function value that has two boxes -/
theorem index2_calls (g:FuncId) (he:Enters Tryz.prog g) (ca cb:Nat) (p:Int→Bool) (v:Value) (l:List Int) (w:World) (hl:IntsAt w v l)
  (hg:∀ x∈l,∀ wx,Below w.heap.size w wx→Calls Tryz.prog g #[.int .i64 x,.pointer (some ⟨ca,0,none⟩),.pointer (some ⟨cb,0,none⟩)] wx (BoolR (p x) wx)) :
  Calls Tryz.prog 135 #[v,.func (.func g) #[] #[.pointer (some ⟨ca,0,none⟩),.pointer (some ⟨cb,0,none⟩)]] w (IdxR p l w):=by
 have he' : ∀ args w,(callFunc g args).run Tryz.prog w=.ok (.enter g args) w:=he
 have HG:=hid hg
 have HL:=hid hl
 obtain ⟨ao,cap,rfl,hlen⟩:=ints_slice hl
 clear hg hl
 go_enter Tryz.func135,Tryz.ntmps135
 go_wp2
 go_loopg [8] l.length (fun gk i wr=>∃ k:Nat,k+gk=l.length∧i=.int .i64 k∧Below w.heap.size w wr∧(l.take k).any p=false)
 case atStart=>exact ⟨0,by omega,rfl,Below.refl _ _,rfl⟩
 case round =>
  obtain ⟨k,hk,rfl,hbe,hno⟩:=hrel
  have HK:=hid hk
  have HNO:=hid hno
  clear hno
  by_cases hlt:k < l.length
  ·obtain ⟨b,off,rfl,hbs,hc⟩:=TyP.ints_at (HL.out.below hbe) k hlt
   have HC:=hid (HG.out _ (List.getElem_mem hlt) wr hbe)
   have HS:=hid (none_succ (p:=p) hlt HNO.out)
   have HY:=hid (any_split (p:=p) hlt)
   clear hk
   generalize l[k]=n at *
   cases hp:p n with
   | true =>
    rw [hp] at HC
    have HP:=hid hp
    clear hp
    go_wp2_with fail
    refine HC.out.mono ?_
    rintro e w1 ⟨rfl,hb1⟩
    have hbe1:=hbe.trans (hb1.mono hbe.size)
    clear hbe hb1 hc
    go_wp2
    go_ret
    exact ⟨k,rfl,by rw [HY.out HP.out];simp,by omega,hbe1⟩
   | false =>
    rw [hp] at HC
    have HP:=hid hp
    clear hp
    go_wp2_with fail
    refine HC.out.mono ?_
    rintro e w1 ⟨rfl,hb1⟩
    have hbe1:=hbe.trans (hb1.mono hbe.size)
    clear hbe hb1 hc
    go_wp2
    go_roundg (gk - 1)
    case measure=>have:=HK.out;omega
    case rel=>exact ⟨k+1,by have:=HK.out;omega,by go_num,hbe1,HS.out HP.out⟩
  ·obtain rfl:k=l.length:=by omega
   clear hk
   go_wp2
   go_ret
   exact ⟨-1,rfl,by have:=HNO.out;rw [List.take_length] at this;rw [this];rfl,by omega,hbe⟩
theorem contains2_calls (g:FuncId) (he:Enters Tryz.prog g) (ca cb:Nat) (p:Int→Bool) (v:Value) (l:List Int) (w:World) (hl:IntsAt w v l)
  (hg:∀ x∈l,∀ wx,Below w.heap.size w wx→Calls Tryz.prog g #[.int .i64 x,.pointer (some ⟨ca,0,none⟩),.pointer (some ⟨cb,0,none⟩)] wx (BoolR (p x) wx)) :
  Calls Tryz.prog 80 #[v,.func (.func g) #[] #[.pointer (some ⟨ca,0,none⟩),.pointer (some ⟨cb,0,none⟩)]] w (BoolR (l.any p) w):=by
 have HC:=hid (index2_calls g he ca cb p v l w hl hg)
 clear hg hl he
 go_enter Tryz.func80,Tryz.ntmps80
 go_wp2_with fail
 refine HC.out.mono ?_
 rintro e w1 ⟨i,rfl,hi,hm,hb1⟩
 have HI:=hid hi
 clear hi
 go_wp2
 all_goals
  go_ret
  refine ⟨?_,hb1⟩
  rw [← HI.out]
  first | rfl | (congr 2;simp;omega)

/-! a body -/
def BdAt (w:World) (b:Nat) (p:Px) (k:Nat) (x:Fx) (fl rl:List Int):Prop :=
 ∃ ba bc ra rc ta tc fa fc ga gc ua uc,w.heap[b]?=some (.cells #[.int .i64 x.sig,.slice ba x.blocks.length bc,.slice ra (regL p.types x).length rc,.slice ta p.types.length tc,.slice fa p.funcs.length fc,.int .i64 (k:Int),.slice ga fl.length gc,.slice ua rl.length uc] 195 (0,0)) ∧
  BlksAt w (.slice ba x.blocks.length bc) x.blocks∧IntsAt w (.slice ra (regL p.types x).length rc) (regL p.types x)∧TysAt w (.slice ta p.types.length tc) p.types∧FnsAt w (.slice fa p.funcs.length fc) p.funcs∧IntsAt w (.slice ga fl.length gc) fl∧IntsAt w (.slice ua rl.length uc) rl
theorem BdAt.below {w w' : World} {b:Nat} {p:Px} {k:Nat} {x:Fx} {fl rl:List Int} (h:BdAt w b p k x fl rl) (hb:Below w.heap.size w w'):BdAt w' b p k x fl rl:=by
 obtain ⟨ba,bc,ra,rc,ta,tc,fa,fc,ga,gc,ua,uc,h0,h1,h2,h3,h4,h5,h6⟩:=h
 exact ⟨ba,bc,ra,rc,ta,tc,fa,fc,ga,gc,ua,uc,(hb.block _ (Array.getElem?_eq_some_iff.1 h0).1).trans h0,h1.below blkStays hb,h2.below hb,h3.below hb,h4.below fnStays hb,h5.below hb,h6.below hb⟩
theorem BdAt.on {W w' : World} {b:Nat} {p:Px} {k:Nat} {x:Fx} {fl rl:List Int} (h:BdAt W b p k x fl rl) (ha:Aft W w'):BdAt w' b p k x fl rl:=h.below ha.below

section
variable (b:Nat) (p:Px) (k:Nat) (x:Fx) (fl rl:List Int)
/-! are -/
theorem one_calls (n:Nat) (kind:Int) (ca cb:Nat) (w:World) (hb:BdAt w b p k x fl rl) (hn:n < p.types.length) (h1:w.cell? ⟨ca,0,none⟩=some (.pointer (some ⟨b,0,none⟩))) (h2:w.cell? ⟨cb,0,none⟩=some (.int .u8 kind)) :
  Calls Tryz.prog 222 #[.int .i64 (n:Int),.pointer (some ⟨ca,0,none⟩),.pointer (some ⟨cb,0,none⟩)] w (BoolR (!isK p.types n kind) w):=by
 obtain ⟨ba,bc,ra,rc,ta,tc,fa,fc,ga,gc,ua,uc,k0,_,_,ht,_,_,_⟩:=hb
 obtain ⟨g,off,pa,pc,rfl,c0,_,_,_,_⟩:=ty_later ht n hn
 have d0:=c0 w (Aft.refl w)
 have l3:=later_cells k0 3 _ rfl w (Aft.refl w)
 have HK:Hid ((!isK p.types n kind)=((tyN p.types n).kind != kind)):=by
  show _=_
  rw [isK_nat,Bool.eq_iff_iff];simp
 have hnl:(n:Int) < (p.types.length:Int):=by omega
 clear k0 ht c0 hn
 generalize (!isK p.types n kind)=ans at *
 generalize (tyN p.types n).kind=xk at *
 generalize p.types.length=n1 at *
 go_enter Tryz.func222,Tryz.ntmps222
 go_wp2
 go_quiet (fail)
 go_wp2
 go_ret
 exact ⟨by rw [HK.out];rfl,below_drewN (Below.refl _ _) nq⟩
theorem all_not_any {l:List Int} {q:Int→Bool} : (!(l.any fun n=>!q n))=l.all q:=by
 rw [Bool.eq_iff_iff]
 simp
theorem are_calls (kind:Int) (va:Value) (l:List Int) (w:World) (hb:BdAt w b p k x fl rl) (hl:IntsAt w va l) (hlt:∀ n∈l,0≤n∧n < p.types.length) :
  Calls Tryz.prog 195 #[.pointer (some ⟨b,0,none⟩),.int .u8 kind,va] w (BoolR (l.all fun n=>isK p.types n kind) w):=by
 obtain ⟨W,hW⟩:∃ W,W=(w.alloc (.cells #[.pointer (some ⟨b,0,none⟩)] 193)).alloc (.cells #[.int .u8 kind] 5):=⟨_,rfl⟩
 have hbW:Below w.heap.size w W:=by rw [hW];exact (alloc_below _ _).trans ((alloc_below _ _).mono (by simp))
 have k1:W.cell? ⟨w.heap.size,0,none⟩=some (.pointer (some ⟨b,0,none⟩)):=by rw [hW];simp
 have k2:W.cell? ⟨w.heap.size+1,0,none⟩=some (.int .u8 kind):=by rw [hW];simp
 have HC:=hid (contains2_calls 222 (enters_of Tryz.func222 (by kernel_rfl) rfl) w.heap.size (w.heap.size+1) (fun n=>!isK p.types n kind) va l W (hl.below hbW) (fun n hn wx hx=>by
  obtain ⟨h0,h1⟩:=hlt n hn
  obtain ⟨m,rfl⟩:∃ m:Nat,n=m:=⟨n.toNat,by omega⟩
  exact one_calls b p k x fl rl m kind _ _ wx (hb.below (hbW.trans (hx.mono hbW.size))) (by omega) (keep_below hx k1) (keep_below hx k2)))
 have HA:=hid (all_not_any (l:=l) (q:=fun n=>isK p.types n kind))
 have HW:=hid hW
 have HBW:=hid hbW
 obtain ⟨ao,ac,rfl,_⟩:=ints_slice hl
 clear hb hl hlt hW hbW k1 k2
 generalize (l.all fun n=>isK p.types n kind)=ans at *
 generalize (l.any fun n=>!isK p.types n kind)=an at *
 go_enter Tryz.func195,Tryz.ntmps195
 go_wp2_with fail
 rw [← HW.out]
 refine HC.out.mono ?_
 rintro e w1 ⟨rfl,hb1⟩
 go_wp2
 go_ret
 exact ⟨by rw [← HA.out];rfl,HBW.out.trans (hb1.mono HBW.out.size)⟩
end
end Go.Proofs.YtpejpnffcepdlaaGreatDoor.SzB
namespace Go.Proofs.YtpejpnffcepdlaaGreatDoor.SzC
open Go.RowKit Go.Lib SetP IntO TyM TyP TyB TyC TyQ ShM ShP ShA ShB ShC ShI ShJ Aft FwP FwQ IntG BlkG LvM SvQ SvP SwA SzM SzE SzB ResT

variable (b:Nat) (p:Px) (k:Nat) (x:Fx) (fl rl:List Int)
theorem are1_calls (kind n:Int) (w:World) (hb:BdAt w b p k x fl rl) (hn:0≤n∧n < p.types.length) :
  Calls Tryz.prog 195 #[.pointer (some ⟨b,0,none⟩),.int .u8 kind,.slice (some ⟨w.heap.size,0,none⟩) 1 1] (w.alloc (.cells #[.int .i64 n] 3)) (BoolR (isK p.types n kind) w):=by
 have hba:Below w.heap.size w (w.alloc (.cells #[.int .i64 n] 3)):=alloc_below _ _
 refine (are_calls b p k x fl rl kind _ [n] _ (hb.below hba) (ints_one (cell_new _ _ _ _ rfl) (size_new _ _ _ rfl)) (fun m hm=>by rw [List.mem_singleton.1 hm];exact hn)).mono ?_
 rintro e w1 ⟨rfl,hb1⟩
 exact ⟨by simp,hba.trans (hb1.mono hba.size)⟩
theorem scal_is {t:List Ty} {n:Int} (h0:0≤n) (h1:n < t.length):scalK t n=(isK t n 1 || (isK t n 2 || isK t n 3)):=by
 obtain ⟨m,rfl⟩:∃ m:Nat,n=m:=⟨n.toNat,by omega⟩
 have hm:m < t.length:=by omega
 have he:=List.getElem?_eq_getElem hm
 unfold scalK
 rw [plainB_at he,isK_nat,isK_nat,isK_nat,ty_at he,decide_eq_true h0,Bool.true_and]
 unfold scalarK
 rw [Bool.eq_iff_iff]
 simp

/-! scalar -/
theorem scalar_calls (n:Int) (w:World) (hb:BdAt w b p k x fl rl) (hn:0≤n∧n < p.types.length) :
  Calls Tryz.prog 198 #[.pointer (some ⟨b,0,none⟩),.int .i64 n] w (BoolR (scalK p.types n) w):=by
 have HC:=hid (fun (kind:Int) (wx:World) (ha:Aft w wx)=>are1_calls b p k x fl rl kind n wx (hb.on ha) hn)
 have HS:=hid (scal_is hn.1 hn.2)
 have h0:=Aft.refl w
 clear hb hn
 generalize scalK p.types n=ans at *
 generalize isK p.types n=q at *
 go_enter Tryz.func198,Tryz.ntmps198
 go_wp2_with fail
 refine (HC.out 1 _ h0).mono ?_
 rintro e w1 ⟨rfl,hb1⟩
 have h1:=h0.go hb1
 clear hb1
 cases h1q:q 1 with
 | true =>
  rw [h1q] at HS
  go_wp2
  go_ret
  exact ⟨by rw [HS.out];rfl,h1.below⟩
 | false =>
  rw [h1q] at HS
  go_wp2_with fail
  refine (HC.out 2 _ h1).mono ?_
  rintro e w2 ⟨rfl,hb2⟩
  have h2:=h1.go hb2
  clear hb2
  cases h2q:q 2 with
  | true =>
   rw [h2q] at HS
   go_wp2
   go_ret
   exact ⟨by rw [HS.out];rfl,h2.below⟩
  | false =>
   rw [h2q] at HS
   go_wp2_with fail
   refine (HC.out 3 _ h2).mono ?_
   rintro e w3 ⟨rfl,hb3⟩
   have h3:=h2.go hb3
   clear hb3
   go_wp2
   go_ret
   exact ⟨by rw [HS.out];rfl,h3.below⟩

/-! points -/
theorem ptr_elem {t:List Ty} (hc:chkT t=0) {n:Int} (h:isK t n 2=true):0≤(tyN t n).elem∧(tyN t n).elem < t.length:=by
 have hm:=good_at hc (isK_at h).1 (isK_low h (by decide))
 have h2:=(isK_at h).2
 unfold mayX at hm
 rw [if_neg (by omega),if_pos h2] at hm
 simp only [Bool.and_eq_true] at hm
 exact lowB_iff.1 hm.1 _ (by simp)
theorem part_is {t:List Ty} {n m:Int} (hm:0≤m):partK t n m=(isK t n 2 && decide ((tyN t n).elem=m)):=by
 unfold partK toK
 rw [decide_eq_true hm,Bool.true_and]
 cases h:isK t n 2 with
 | true=>rfl
 | false =>
  rw [if_neg (by simp),Bool.false_and]
  exact decide_eq_false (by omega)
theorem points_calls (n:Nat) (m:Int) (w:World) (hb:BdAt w b p k x fl rl) (hn:n < p.types.length) (hm:0≤m) :
  Calls Tryz.prog 197 #[.pointer (some ⟨b,0,none⟩),.int .i64 (n:Int),.int .i64 m] w (BoolR (partK p.types n m) w):=by
 have HC:=hid (are1_calls b p k x fl rl 2 (n:Int) w hb ⟨by omega,by omega⟩)
 have HS:=hid (part_is (t:=p.types) (n:=(n:Int)) hm)
 have h0:=Aft.refl w
 obtain ⟨ba,bc,ra,rc,ta,tc,fa,fc,ga,gc,ua,uc,k0,_,_,ht,_,_,_⟩:=hb
 obtain ⟨g,off,pa,pc,rfl,_,c1,_,_,_⟩:=ty_later ht n hn
 have l3:=later_cells k0 3 _ rfl
 have hnl:(n:Int) < (p.types.length:Int):=by omega
 have HD:Hid (((tyN p.types (n:Int)).elem == m)=decide ((tyN p.types (n:Int)).elem=m)):=by show _=_;rw [Bool.eq_iff_iff];simp
 clear k0 ht hn hm
 generalize partK p.types n m=ans at *
 generalize isK p.types n 2=q at *
 generalize (tyN p.types (n:Int)).elem=te at *
 generalize decide (te=m)=dm at *
 generalize p.types.length=n1 at *
 go_enter Tryz.func197,Tryz.ntmps197
 go_wp2_with fail
 refine HC.out.mono ?_
 rintro e w1 ⟨rfl,hb1⟩
 have h1:=h0.go hb1
 have l3:=l3 w1 h1
 have c1:=c1 w1 h1
 clear hb1 HC
 cases q with
 | false =>
  go_wp2
  go_ret
  exact ⟨by rw [HS.out];rfl,h1.below⟩
 | true =>
  go_wp2
  go_ret
  exact ⟨by rw [HS.out,Bool.true_and,← HD.out];rfl,h1.below⟩

/-! calls -/
theorem calls_calls (n:Nat) (va:Value) (l:List Int) (m:Int) (w:World) (hb:BdAt w b p k x fl rl) (hn:n < p.types.length) (hl:IntsAt w va l) (hk:isK p.types n 3=true) :
  Calls Tryz.prog 199 #[.pointer (some ⟨b,0,none⟩),.int .i64 (n:Int),va,.int .i64 m] w (BoolR (callK p.types n l m) w):=by
 have HS:Hid (callK p.types n l m=(decide (l=(tyN p.types n).parts) && decide ((tyN p.types n).elem=m))):=by
  show _=_
  unfold callK
  rw [hk,Bool.true_and,Bool.eq_iff_iff]
  simp only [Bool.and_eq_true,decide_eq_true_eq]
  exact ⟨fun h=>⟨h.1.symm,h.2⟩,fun h=>⟨h.1.symm,h.2⟩⟩
 obtain ⟨ba,bc,ra,rc,ta,tc,fa,fc,ga,gc,ua,uc,k0,_,_,ht,_,_,_⟩:=hb
 obtain ⟨g,off,pa,pc,rfl,c0,c1,c2,c3,hp⟩:=ty_later ht n hn
 have l3:=later_cells k0 3 _ rfl w (Aft.refl w)
 have hnl:(n:Int) < (p.types.length:Int):=by omega
 obtain ⟨W,hW⟩:∃ W,W=w.alloc (.cells #[.int .u8 (tyN p.types n).kind,.int .i64 (tyN p.types n).elem,.int .i64 (tyN p.types n).many,.slice pa (tyN p.types n).parts.length pc] 43):=⟨_,rfl⟩
 have hbW:Below w.heap.size w W:=by rw [hW];exact alloc_below _ _
 have k1:W.heap[w.heap.size]?=some (.cells #[.int .u8 (tyN p.types n).kind,.int .i64 (tyN p.types n).elem,.int .i64 (tyN p.types n).many,.slice pa (tyN p.types n).parts.length pc] 43 (0,0)):=by rw [hW];exact ShB.alloc_new _ _
 have HC:=hid (equal_calls va _ l _ W (hl.below hbW) (hp W hbW))
 have HD:Hid ((m == (tyN p.types (n:Int)).elem)=decide ((tyN p.types (n:Int)).elem=m)):=by show _=_;rw [Bool.eq_iff_iff,beq_iff_eq,decide_eq_true_eq];exact ⟨Eq.symm,Eq.symm⟩
 have HW:=hid hW
 have HBW:=hid hbW
 have j1:=later_cells k1 1 _ rfl
 have j3:=later_cells k1 3 _ rfl
 have c0:=c0 w (Aft.refl w);have c1:=c1 w (Aft.refl w);have c2:=c2 w (Aft.refl w);have c3:=c3 w (Aft.refl w)
 obtain ⟨ao,ac,rfl,_⟩:=ints_slice hl
 have h0:=Aft.refl W
 clear k0 k1 ht hn hl hk hp hW hbW
 generalize callK p.types n l m=ans at *
 generalize decide (l=(tyN p.types n).parts)=q at *
 generalize (tyN p.types (n:Int)).parts.length=np at *
 generalize (tyN p.types (n:Int)).elem=te at *
 generalize (tyN p.types (n:Int)).kind=tk at *
 generalize (tyN p.types (n:Int)).many=tm at *
 generalize decide (te=m)=dm at *
 generalize p.types.length=n1 at *
 go_enter Tryz.func199,Tryz.ntmps199
 go_wp2_with fail
 rw [← HW.out]
 refine HC.out.mono ?_
 rintro e w1 ⟨rfl,hb1⟩
 have h1:=h0.go hb1
 have j1:=j1 w1 h1
 clear hb1 HC
 cases q with
 | false =>
  go_wp2
  go_ret
  exact ⟨by rw [HS.out];rfl,h1.out HBW.out⟩
 | true =>
  go_wp2
  go_ret
  exact ⟨by rw [HS.out,Bool.true_and,← HD.out];rfl,h1.out HBW.out⟩

/-! under -/
def underT (t:List Ty) (n:Int):Ty:=if isK t n 2=true then tyN t (tyN t n).elem else ⟨0,0,0,[]⟩
def UnderR (y:Ty) (w:World) (e:Ending) (w' : World):Prop:=∃ pa pc,e=.returned (.agg #[.int .u8 y.kind,.int .i64 y.elem,.int .i64 y.many,.slice pa y.parts.length pc])∧IntsAt w' (.slice pa y.parts.length pc) y.parts∧Below w.heap.size w w'
theorem under_calls (n:Nat) (w:World) (hb:BdAt w b p k x fl rl) (hc:chkT p.types=0) (hn:n < p.types.length) :
  Calls Tryz.prog 196 #[.pointer (some ⟨b,0,none⟩),.int .i64 (n:Int)] w (UnderR (underT p.types n) w):=by
 obtain ⟨W,hW⟩:∃ W,W=w.alloc (.cells #[.int .u8 0,.int .i64 0,.int .i64 0,.slice none 0 0] 43):=⟨_,rfl⟩
 have hbW:Below w.heap.size w W:=by rw [hW];exact alloc_below _ _
 have HC:=hid (are1_calls b p k x fl rl 2 (n:Int) W (hb.below hbW) ⟨by omega,by omega⟩)
 have k1:W.heap[w.heap.size]?=some (.cells #[.int .u8 0,.int .i64 0,.int .i64 0,.slice none 0 0] 43 (0,0)):=by rw [hW];exact ShB.alloc_new _ _
 have hbl:=hb
 have HW:=hid hW
 have HBW:=hid hbW
 have HWS:Hid (W.heap.size=w.heap.size+1):=by show _=_;rw [hW];simp
 have h0:=Aft.refl W
 clear hW hbW hb
 by_cases hq:isK p.types n 2=true
 ·obtain ⟨e0,e1⟩:=ptr_elem hc hq
  obtain ⟨m,hm⟩:∃ m:Nat,(tyN p.types (n:Int)).elem=m:=⟨(tyN p.types (n:Int)).elem.toNat,by omega⟩
  have hml:m < p.types.length:=by omega
  have HU:Hid (underT p.types n=tyN p.types m):=by show _=_;unfold underT;rw [if_pos hq,hm]
  obtain ⟨ba,bc,ra,rc,ta,tc,fa,fc,ga,gc,ua,uc,k0,_,_,ht,_,_,_⟩:=hbl
  obtain ⟨g,off,pa,pc,rfl,_,c1,_,_,_⟩:=ty_later ht n hn
  obtain ⟨g2,off2,pa2,pc2,he2,d0,d1,d2,d3,hp⟩:=ty_later ht m hml
  cases he2
  rw [hm] at c1
  have l3:=later_cells k0 3 _ rfl
  have hnl:(n:Int) < (p.types.length:Int):=by omega
  have hmi:(m:Int) < (p.types.length:Int):=by omega
  have HP:=hid hp
  rw [hq,HWS.out] at HC
  rw [HU.out]
  have HK1:=hid k1
  clear k0 ht hn hq e0 e1 hm hml hc hp HU k1
  generalize tyN p.types (m:Int)=y at *
  obtain ⟨yk,ye,ym,yp⟩:=y
  generalize p.types.length=n1 at *
  go_enter Tryz.func196,Tryz.ntmps196
  go_wp2_with fail
  rw [← HW.out]
  refine HC.out.mono ?_
  rintro e w1 ⟨rfl,hb1⟩
  have h1:=h0.go hb1
  have h9:Aft w w1:=h1.out HBW.out
  have l3:=l3 w1 h9
  have c1:=c1 w1 h9
  have d0:=d0 w1 h9
  have d1:=d1 w1 h9
  have d2:=d2 w1 h9
  have d3:=d3 w1 h9
  clear h9
  clear hb1 HC
  have k1w:=(later_heap HK1.out) w1 h1
  obtain ⟨r0,rz⟩:=ResT.cells_heap k1w
  have q0:=r0 0 _ rfl
  have q1:=r0 1 _ rfl
  have q2:=r0 2 _ rfl
  have q3:=r0 3 _ rfl
  have z0:=rz 0
  have z1:=rz 1
  have z2:=rz 2
  have z3:=rz 3
  have HKW:=hid k1w
  clear r0 rz k1w
  go_wp2
  have HE:=hid (h1.out HBW.out)
  go_region
  obtain ⟨X,hX,hbX,hld⟩:=res_tyD w1 w.heap.size _ _ _ _ (.int .u8 yk) (.int .i64 ye) (.int .i64 ym) (.slice pa2 yp.length pc2) HKW.out
  rw [← hX]
  go_wp2
  exact bodyPost_ret (v:=.agg #[.int .u8 yk,.int .i64 ye,.int .i64 ym,.slice pa2 yp.length pc2]) (by rw [ResT.results_cell rfl];simp [asAddr,Result.andThen,hld]) rfl ⟨pa2,pc2,rfl,HP.out _ (hbX _ _ HE.out (Nat.le_refl _)),hbX _ _ HE.out (Nat.le_refl _)⟩
 ·have hq:isK p.types n 2=false:=by simpa using hq
  rw [hq,HWS.out] at HC
  have HU:Hid (underT p.types n=⟨0,0,0,[]⟩):=by show _=_;unfold underT;rw [if_neg (by rw [hq];simp)]
  rw [HU.out]
  have HK1:=hid k1
  clear hq hc hn hbl HU k1
  go_enter Tryz.func196,Tryz.ntmps196
  go_wp2_with fail
  rw [← HW.out]
  refine HC.out.mono ?_
  rintro e w1 ⟨rfl,hb1⟩
  have h1:=h0.go hb1
  clear hb1 HC
  have k1w:=(later_heap HK1.out) w1 h1
  obtain ⟨r0,rz⟩:=ResT.cells_heap k1w
  have q0:=r0 0 _ rfl
  have q1:=r0 1 _ rfl
  have q2:=r0 2 _ rfl
  have q3:=r0 3 _ rfl
  have z0:=rz 0
  have z1:=rz 1
  have z2:=rz 2
  have z3:=rz 3
  have HKW:=hid k1w
  have HE:=hid (h1.out HBW.out)
  clear r0 rz k1w
  go_wp2
  obtain ⟨X,hX,hbX,hld⟩:=res_ty w1 w.heap.size _ _ _ _ (.int .u8 0) (.int .i64 0) (.int .i64 0) (.slice none 0 0) HKW.out
  rw [← hX]
  exact bodyPost_ret (v:=.agg #[.int .u8 0,.int .i64 0,.int .i64 0,.slice none 0 0]) (by rw [ResT.results_cell rfl];simp [asAddr,Result.andThen,hld]) rfl ⟨none,0,rfl,ints_none _,hbX _ _ HE.out (Nat.le_refl _)⟩
/-! typ -/
def TypN (ty:Int) (w:World) (e:Ending) (w' : World):Prop:=∃ v,e=.returned (.tuple #[.int .i64 (if 0≤ty then ty else 0),v])∧(if 0≤ty then v=.nilIface else ∃ n,ErrAt w' 6 v n)∧Below w.heap.size w w'
theorem typn_calls (va:Value) (l:List Int) (r:Nat) (ty:Int) (w:World) (hl:IntsAt w va l) (hr:l[r]?=some ty) (ht:ty = -1∨0≤ty) :
  Calls Tryz.prog 26 #[va,.int .i64 (r:Int)] w (TypN ty w):=by
 obtain ⟨la,lc,rfl,_⟩:=ints_slice hl
 obtain ⟨g,off,rfl,c0⟩:=int_at hl hr
 have hri:(r:Int) < (l.length:Int):=by have:=(List.getElem?_eq_some_iff.1 hr).1;omega
 have HN:=hid (fun s=>in_err s (r:Int) 6 _ 0 w .num)
 clear hl hr
 generalize l.length=n1 at *
 rcases ht with rfl | ht
 ·go_enter Tryz.func26,Tryz.ntmps26
  go_wp2_with (refine (HN.out _).mono ?_;rintro e w1 ⟨v,rfl,hv,hb1⟩;have HV:=hid hv;obtain ⟨t1,u1,rfl⟩:=hv.iface;clear hv)
  go_ret2
  exact ⟨_,rfl,⟨1,HV.out⟩,hb1⟩
 ·have hd:(ty == -1)=false:=by rw [beq_eq_false_iff_ne];omega
  have HT:Hid ((if 0≤ty then ty else 0)=ty):=if_pos ht
  have HE:Hid (0≤ty):=ht
  unfold TypN
  rw [HT.out]
  clear ht HT
  go_enter Tryz.func26,Tryz.ntmps26
  go_wp2
  go_ret2
  exact ⟨_,rfl,by first | rfl | (rw [if_pos HE.out];rfl),Below.refl _ _⟩
def TypR (ty:Int) (w:World) (e:Ending) (w' : World):Prop:=∃ v,e=.returned (.tuple #[.int .i64 (if 0≤ty then ty else 0),v])∧ErrIf (decide (0≤ty)) w' v∧Below w.heap.size w w'
theorem typ_calls (va:Value) (l:List Int) (r:Nat) (ty:Int) (w:World) (hl:IntsAt w va l) (hr:l[r]?=some ty) (ht:ty = -1∨0≤ty) :
  Calls Tryz.prog 26 #[va,.int .i64 (r:Int)] w (TypR ty w):=by
 refine (typn_calls va l r ty w hl hr ht).mono ?_
 rintro e w' ⟨v,rfl,hv,hb⟩
 refine ⟨v,rfl,?_,hb⟩
 by_cases h0:0≤ty
 ·rw [if_pos h0] at hv
  rw [decide_eq_true h0]
  exact hv
 ·rw [if_neg h0] at hv
  rw [decide_eq_false h0]
  obtain ⟨n,hn⟩:=hv
  exact ⟨6,n,hn,.inr rfl⟩
end Go.Proofs.YtpejpnffcepdlaaGreatDoor.SzC
namespace Go.Proofs.YtpejpnffcepdlaaGreatDoor.SzS
open Go.RowKit Go.Lib SetP IntO TyM TyP TyB TyC TyQ ShM ShP ShA ShB ShC ShE ShH ShI ShJ Aft FwM FwP FwQ FdM FdQ IntG BlkG LvM SoM SvQ SvP SwA SzM SzE SzB SzC

structure BdOk (p:Px) (x:Fx) (fl rl:List Int):Prop where
 chk:chkP p=0
 ok:POk p
 small:Small p
 mem:x∈p.funcs
 reach:∀ b,b < x.blocks.length→FwM.Comes (succ x.blocks) 0 b
 fst:fl=firstL (parOf p.types x.sig) x.blocks (x.blocks.length+1)
 rul:∀ k,k < x.blocks.length→rl[k]?=some (rulerL x.blocks k)
def gm (l:List Bx) (k:Int):Nat:=if k < 0 then 0 else rulersN l k.toNat+1
theorem gm_nat (l:List Bx) (k:Nat):gm l (k:Int)=rulersN l k+1:=by unfold gm;rw [if_neg (by omega),Int.toNat_natCast]
theorem gm_neg {l:List Bx} {k:Int} (h:k < 0):gm l k=0:=by unfold gm;rw [if_pos h]
theorem gm_less {l:List Bx} {q:Int} {a:Nat} (h:q = -1∨∃ c:Nat,q=c∧c < l.length∧rulersN l c < rulersN l a):gm l q < rulersN l a+1:=by
 rcases h with rfl | ⟨c,rfl,_,h⟩
 ·rw [gm_neg (by decide)];omega
 ·rw [gm_nat];omega

variable (b:Nat) (p:Px) (k:Nat) (x:Fx) (fl rl:List Int)
theorem set_calls (r bk pl:Nat) (w:World) (hb:BdAt w b p k x fl rl) (ho:BdOk p x fl rl) (hr:r < parOf p.types x.sig+manyB x.blocks) (hbk:bk < x.blocks.length) (hpl:pl≤(insAt x.blocks bk).length) :
  Calls Tryz.prog 221 #[.pointer (some ⟨b,0,none⟩),.int .i64 (r:Int),.int .i64 (bk:Int),.int .i64 (pl:Int)] w (BoolR (isSetL (parOf p.types x.sig) x.blocks r bk pl) w):=by
 obtain ⟨hL,h0,h16⟩:=low_of ho.chk ho.ok ho.mem
 have hreach:=ho.reach
 have hmany:=ho.small.many x ho.mem
 have hparts:parOf p.types x.sig≤20000:=by
  unfold parOf
  cases e:p.types[x.sig.toNat]? with
  | none=>simp [default]
  | some y=>exact ho.small.parts y (List.mem_of_getElem? e)
 obtain ⟨ba,bc,ra,rc,ta,tc,fa,fc,ga,gc,ua,uc,k0,_,_,_,_,hf,hu⟩:=hb
 have l6:=later_cells k0 6 _ rfl
 have l7:=later_cells k0 7 _ rfl
 have hfl:=ho.fst
 have hfn:fl.length=x.blocks.length+1:=by rw [hfl,firstL_len]
 have hfg:∀ j,j≤x.blocks.length→fl[j]?=some ((firstB' (parOf p.types x.sig) x.blocks j:Nat):Int):=fun j hj=>by rw [hfl,firstL_at (by omega)]
 have hrg:=ho.rul
 obtain ⟨g,off,rfl,_⟩:=int_at hf (hfg 0 (by omega))
 obtain ⟨g2,off2,rfl,_⟩:=int_at hu (hrg 0 (by omega))
 have F:=hid (fun (j:Nat) (hj:j≤x.blocks.length) (w' : World) (ha:Aft w w')=>show w'.cell? ⟨g,off+j,none⟩=some (.int .i64 ((firstB' (parOf p.types x.sig) x.blocks j:Nat):Int)) by
  obtain ⟨g',off',he,hc⟩:=int_at hf (hfg j hj)
  cases he
  exact later hc w' ha)
 have R:=hid (fun (j:Nat) (hj:j < x.blocks.length) (w' : World) (ha:Aft w w')=>show w'.cell? ⟨g2,off2+j,none⟩=some (.int .i64 (rulerL x.blocks j)) by
  obtain ⟨g',off',he,hc⟩:=int_at hu (hrg j hj)
  cases he
  exact later hc w' ha)
 have hfi:∀ j:Nat,j≤x.blocks.length→(j:Int) < (fl.length:Int):=fun j hj=>by omega
 have hrl:x.blocks.length≤rl.length:=by
  refine Nat.le_of_not_lt fun hlt=>?_
  have:=(List.getElem?_eq_some_iff.1 (hrg (x.blocks.length - 1) (by omega))).1
  omega
 have FI:=hid hfi
 have UP:=hid (fun j (hj:j < x.blocks.length) h1 h2=>up_in hL h0 hreach hr hj h1 h2)
 have RL:=hid (fun j (hj:j < x.blocks.length)=>ruler_lt hL h0 hreach hj)
 have FLE:=hid (fun j=>first_le (par:=parOf p.types x.sig) (l:=x.blocks) (k:=j))
 have HPI:=hid hrl
 have H16:=hid h16
 have c6:=l6 w (Aft.refl w)
 have c7:=l7 w (Aft.refl w)
 have f0:=F.out 0 (by omega) w (Aft.refl w)
 rw [first_zero,Nat.add_zero] at f0
 have fb:=F.out bk (by omega) w (Aft.refl w)
 have i0:(0:Int) < (fl.length:Int):=by omega
 have ib:=hfi bk (by omega)
 have jb:(bk:Int) < (rl.length:Int):=by omega
 have hpls:pl≤20000:=by
  have:=first_le (par:=parOf p.types x.sig) (l:=x.blocks) (k:=bk+1)
  rw [first_next hbk] at this
  unfold firstB' at this
  omega
 have hfs:firstB' (parOf p.types x.sig) x.blocks bk≤40000:=by have:=first_le (par:=parOf p.types x.sig) (l:=x.blocks) (k:=bk);omega
 by_cases hp:r < parOf p.types x.sig
 ·have HA:=hid (set_par (l:=x.blocks) (b:=(bk:Int)) (k:=(pl:Int)) hp)
  have hd:(r:Int) < ((parOf p.types x.sig:Nat):Int):=by omega
  rw [HA.out]
  clear hL h0 h16 hreach hmany hparts k0 hf hu l6 l7 hfl hfn hfg hrg hfi hrl F R UP RL FLE hr hbk hpl ho hp HA
  generalize parOf p.types x.sig=par at *
  generalize firstB' par x.blocks bk=fbk at *
  generalize fl.length=n1 at *
  generalize rl.length=n2 at *
  go_enter Tryz.func221,Tryz.ntmps221
  go_wp2
  go_ret
  exact ⟨rfl,Below.refl _ _⟩
 have hd:¬ (r:Int) < ((parOf p.types x.sig:Nat):Int):=by omega
 by_cases hown:firstB' (parOf p.types x.sig) x.blocks bk≤r∧r < firstB' (parOf p.types x.sig) x.blocks bk+pl
 ·have HA:=hid (set_own hr hbk hpl hown.1 hown.2)
  have h1:((firstB' (parOf p.types x.sig) x.blocks bk:Nat):Int)≤(r:Int):=by omega
  have h2:(r:Int) < ((firstB' (parOf p.types x.sig) x.blocks bk:Nat):Int)+(pl:Int):=by omega
  rw [HA.out]
  clear hL h0 h16 hreach hmany hparts k0 hf hu l6 l7 hfl hfn hfg hrg hfi hrl F R UP RL FLE hr hbk hpl ho hp HA hown
  generalize parOf p.types x.sig=par at *
  generalize firstB' par x.blocks bk=fbk at *
  generalize fl.length=n1 at *
  generalize rl.length=n2 at *
  go_enter Tryz.func221,Tryz.ntmps221
  go_wp2
  go_ret
  exact ⟨rfl,Below.refl _ _⟩
 have HA:=hid (set_up hL h0 hreach hr hp hbk hpl hown)
 have UN:=hid (fun j (hj:j < x.blocks.length) hno=>up_next hL h0 hreach hr hp hj hno)
 have UZ:=hid (fun (q:Int) (hq:q < 0)=>up_none (par:=parOf p.types x.sig) (l:=x.blocks) (r:=r) hq)
 have rb:=R.out bk hbk w (Aft.refl w)
 have HST:=hid (RL.out bk hbk)
 rw [HA.out]
 clear hL h0 h16 hreach hmany hparts k0 hf hu hfl hfn hfg hrg hfi hr hbk hpl ho HA
 have hown2:¬ (((firstB' (parOf p.types x.sig) x.blocks bk:Nat):Int)≤(r:Int)∧(r:Int) < ((firstB' (parOf p.types x.sig) x.blocks bk:Nat):Int)+(pl:Int)):=by omega
 clear hown hrl
 generalize hR:rulerL x.blocks bk=rk at *
 have HR:=hid hR
 clear hR
 have key:∀ (T:Prop),((¬ (((firstB' (parOf p.types x.sig) x.blocks bk:Nat):Int)≤(r:Int)))→T)→((((firstB' (parOf p.types x.sig) x.blocks bk:Nat):Int)≤(r:Int))→¬ ((r:Int) < ((firstB' (parOf p.types x.sig) x.blocks bk:Nat):Int)+(pl:Int))→T)→T:=by
  intro T t1 t2
  by_cases h:((firstB' (parOf p.types x.sig) x.blocks bk:Nat):Int)≤(r:Int)
  ·exact t2 h (fun h2=>hown2 ⟨h,h2⟩)
  ·exact t1 h
 clear hown2
 refine key _ (fun h1=>?_) (fun h1 h2=>?_)
 all_goals
  clear key
  generalize hans:upB (parOf p.types x.sig) x.blocks r rk=ans at *
  have HANS:=hid hans
  clear hans
  generalize parOf p.types x.sig=par at *
  have HFBK:Hid (∃ z,z=firstB' par x.blocks bk):=⟨_,rfl⟩
  generalize firstB' par x.blocks bk=fbk at *
  generalize hn1:fl.length=n1 at *
  generalize hn2:rl.length=n2 at *
  have HN:=hid (show x.blocks.length≤n2 from HPI.out)
  clear hn1 hn2 HPI
  go_enter Tryz.func221,Tryz.ntmps221
  go_wp2_with fail
  go_loopg [10] (gm x.blocks rk) (fun gk kv wr=>∃ q:Int,kv=.int .i64 q∧(q = -1∨∃ a:Nat,q=a∧a < x.blocks.length)∧gk=gm x.blocks q∧upB par x.blocks r q=ans∧Aft w wr)
  case atStart=>exact ⟨rk,rfl,by rcases HST.out with h | ⟨a,h,h3,_⟩;exact .inl h;exact .inr ⟨a,h,h3⟩,rfl,HANS.out,Aft.refl w⟩
  case round =>
   obtain ⟨q,rfl,hq,hgk,hup,hA⟩:=hrel
   have HUP:=hid hup
   have HG:=hid hgk
   clear hup hgk
   rcases hq with rfl | ⟨a,rfl,ha⟩
   ·have HZ:=hid ((UZ.out (-1) (by decide)).symm.trans HUP.out)
    clear l6 l7
    go_wp2
    go_ret
    exact ⟨by rw [← HZ.out];rfl,hA.below⟩
   ·have c6:=l6 wr hA
    have c7:=l7 wr hA
    have f1:=F.out a (by omega) wr hA
    have f2:=F.out (a+1) (by omega) wr hA
    have i1:=FI.out a (by omega)
    have i2:=FI.out (a+1) (by omega)
    have r1:=R.out a ha wr hA
    have j1:(a:Int) < (n2:Int):=by have:=HN.out;omega
    have HIN:=hid (UP.out a ha)
    have HNX:=hid (UN.out a ha)
    have HRL:=hid (RL.out a ha)
    have HGN:=hid (gm_nat x.blocks a)
    have a0:(0:Int)≤(a:Int):=by omega
    have i3:(a:Int)+1 < (n1:Int):=by omega
    have i4:(a:Int)≤20000:=by have:=H16.out;omega
    clear l6 l7 ha i2
    generalize firstB' par x.blocks a=fa1 at *
    generalize firstB' par x.blocks (a+1)=fa2 at *
    generalize rulerL x.blocks a=ra1 at *
    by_cases g1:(fa1:Int)≤(r:Int)
    ·by_cases g2:(r:Int) < (fa2:Int)
     ·have HZ:=hid ((HIN.out (by omega) (by omega)).symm.trans HUP.out)
      go_wp2
      go_ret
      exact ⟨by rw [← HZ.out];rfl,hA.below⟩
     ·have HZ:=hid ((HNX.out (by omega)).symm.trans HUP.out)
      go_wp2
      go_roundg (gm x.blocks ra1)
      case measure=>rw [HG.out,HGN.out];exact gm_less HRL.out
      case rel=>exact ⟨ra1,rfl,by rcases HRL.out with h | ⟨a',h,h3,_⟩;exact .inl h;exact .inr ⟨a',h,h3⟩,rfl,HZ.out,hA⟩
    ·have HZ:=hid ((HNX.out (by omega)).symm.trans HUP.out)
     go_wp2
     go_roundg (gm x.blocks ra1)
     case measure=>rw [HG.out,HGN.out];exact gm_less HRL.out
     case rel=>exact ⟨ra1,rfl,by rcases HRL.out with h | ⟨a',h,h3,_⟩;exact .inl h;exact .inr ⟨a',h,h3⟩,rfl,HZ.out,hA⟩

/-! read -/
def ReadR (ok:Bool) (ty:Int) (w:World) (e:Ending) (w' : World):Prop:=∃ n v,e=.returned (.tuple #[.int .i64 n,v])∧(ok=true→n=ty)∧ErrIf ok w' v∧Below w.heap.size w w'
theorem read_calls (r bk pl:Nat) (w:World) (hb:BdAt w b p k x fl rl) (ho:BdOk p x fl rl) (hr:r < parOf p.types x.sig+manyB x.blocks) (hbk:bk < x.blocks.length) (hpl:pl≤(insAt x.blocks bk).length) :
  Calls Tryz.prog 194 #[.pointer (some ⟨b,0,none⟩),.int .i64 (r:Int),.int .i64 (bk:Int),.int .i64 (pl:Int)] w (ReadR (isSetL (parOf p.types x.sig) x.blocks r bk pl && decide (0≤typeI p.types x r)) (typeI p.types x r) w):=by
 have HS:=hid (set_calls b p k x fl rl r bk pl w hb ho hr hbk hpl)
 have h0:=Aft.refl w
 have hty:=type_neg ho.chk ho.ok ho.mem hr
 have HT:=hid (fun (wx:World) (ha:Aft w wx) (vr:Value) (hv:IntsAt wx vr (regL p.types x))=>typ_calls vr (regL p.types x) r (typeI p.types x r) wx hv (regL_at hr) (hty.imp id And.left))
 obtain ⟨ba,bc,ra,rc,ta,tc,fa,fc,ga,gc,ua,uc,k0,_,hregs,_,_,hf,hu⟩:=hb
 have l2:=later_cells k0 2 _ rfl
 have HR:=hid (fun (wx:World) (ha:Aft w wx)=>hregs.below ha.below)
 have HN:=hid (fun (wx:World) s=>in_calls s (r:Int) _ wx (bad_form wx))
 clear k0 hregs hf hu ho hr hbk hpl hty
 generalize isSetL (parOf p.types x.sig) x.blocks r bk pl=st at *
 generalize typeI p.types x r=ty at *
 generalize regL p.types x=rg at *
 go_enter Tryz.func194,Tryz.ntmps194
 go_wp2_with fail
 refine HS.out.mono ?_
 rintro e w1 ⟨rfl,hb1⟩
 have h1:=h0.go hb1
 clear hb1 HS
 cases st with
 | false =>
  go_wp2_with fail
  refine (HN.out _ _).mono ?_
  rintro e w2 ⟨v,rfl,hv,hb2⟩
  have h2:=h1.go hb2
  have HV:=hid hv
  obtain ⟨t1,u1,rfl⟩:=hv.no.iface
  clear hv hb2
  go_wp2
  go_ret2
  exact ⟨_,_,rfl,fun h=>by simp at h,HV.out,h2.below⟩
 | true =>
  have l2:=l2 w1 h1
  have HTT:=hid (HT.out w1 h1 _ (HR.out w1 h1))
  go_wp2_with fail
  refine HTT.out.mono ?_
  rintro e w2 ⟨v,rfl,hv,hb2⟩
  have h2:=h1.go hb2
  have HV:=hid hv
  by_cases hz:0≤ty
  ·have HZ:=hid (decide_eq_true hz)
   have hv0:=hv
   rw [HZ.out] at hv0
   have hvv:=hv0.yes
   subst hvv
   have HIF:Hid ((if 0≤ty then ty else 0)=ty):=if_pos hz
   rw [HIF.out]
   clear hv hv0 hb2 hz
   go_wp2
   go_ret2
   exact ⟨_,_,rfl,fun h=>rfl,HV.out,h2.below⟩
  ·have HZ:=hid (decide_eq_false hz)
   have hv0:=hv
   rw [HZ.out] at hv0
   obtain ⟨t1,u1,rfl⟩:=hv0.no.iface
   have HIF:Hid ((if 0≤ty then ty else 0)=0):=if_neg hz
   rw [HIF.out]
   clear hv hv0 hb2 hz
   go_wp2
   go_ret2
   exact ⟨_,_,rfl,fun h=>by rw [HZ.out] at h;simp at h,HV.out,h2.below⟩
end Go.Proofs.YtpejpnffcepdlaaGreatDoor.SzS
namespace Go.Proofs.YtpejpnffcepdlaaGreatDoor.SzF
open Go.RowKit Go.Lib SetP IntO TyM TyP TyB TyC TyQ ShM ShP ShA ShB ShC ShE ShH ShI ShJ Aft FwP FwQ IntG BlkG LvM SvQ SvP SwA SzM SzE SzB SzC

structure FitOk (p:Px) (i:Ix) (l:List Int):Prop where
 chk:chkP p=0
 typ:answersB i.op=true→0≤i.typ∧i.typ < p.types.length
 n:i.op=3∨i.op=18→0≤i.n∧i.n < p.funcs.length
 n14:i.op=14→0≤i.n∧i.n < 8
 len:l.length=(usesOf i).length
 low:∀ m∈l,0≤m∧m < p.types.length
theorem FitOk.chkT {p:Px} {i:Ix} {l:List Int} (h:FitOk p i l):chkT p.types=0:=(chk_zero h.chk).1
theorem two_of {l:List Int} (h:l.length=2):∃ a b,l=[a,b]:=by
 match l,h with
 | [a,b],_=>exact ⟨a,b,rfl⟩
theorem one_of {l:List Int} (h:l.length=1):∃ a,l=[a]:=by
 match l,h with
 | [a],_=>exact ⟨a,rfl⟩

/-! leaving many blocks at once -/
theorem then_exit {K:Act→World→Prop} {Q:Exit→Act→World→Prop} {n:Nat} {a:Act} {w:World} (h:Q (.exit n) a w):Exit.then K Q (.exit n) a w:=h
theorem in_here {Q:Exit→Act→World→Prop} {n:Nat} {a:Act} {w:World} (h:Q .normal a w):Exit.inBlock n Q (.exit n) a w:=by
 show (if n=n then Q .normal a w else _)
 rw [if_pos rfl]
 exact h
theorem in_other {Q:Exit→Act→World→Prop} {n m:Nat} {a:Act} {w:World} (hne:n≠m) (h:Q (.exit n) a w):Exit.inBlock m Q (.exit n) a w:=by
 show (if n=m then _ else Q (.exit n) a w)
 rw [if_neg hne]
 exact h
theorem then_normal {K:Act→World→Prop} {Q:Exit→Act→World→Prop} {a:Act} {w:World} (h:K a w):Exit.then K Q .normal a w:=h

variable (b:Nat) (p:Px) (k:Nat) (x:Fx) (fl rl:List Int)
theorem fits_arith4 (i:Ix) (aa fa la:Option Addr) (an ac fn fc ln lc:Nat) (l:List Int) (w:World) (hb:BdAt w b p k x fl rl) (hx:FitOk p i l) (hl:IntsAt w (.slice la ln lc) l) (hop:i.op=4) :
  Calls Tryz.prog 164 #[.pointer (some ⟨b,0,none⟩),ixV i (.slice aa an ac) (.slice fa fn fc),.slice la ln lc] w (BoolR (typedB p i l) w):=by
 obtain ⟨op,typ,ra1,rb1,n,args,frm⟩:=i
 have hop2:op=4:=hop
 clear hop
 subst hop2
 obtain ⟨W,hW⟩:∃ W,W=w.alloc (.cells #[.int .u8 4,.int .i64 typ,.int .i64 ra1,.int .i64 rb1,.int .i64 n,.slice aa an ac,.slice fa fn fc] 31):=⟨_,rfl⟩
 have hbW:Below w.heap.size w W:=by rw [hW];exact alloc_below _ _
 have k1:W.heap[w.heap.size]?=some (.cells #[.int .u8 4,.int .i64 typ,.int .i64 ra1,.int .i64 rb1,.int .i64 n,.slice aa an ac,.slice fa fn fc] 31 (0,0)):=by rw [hW];exact ShB.alloc_new _ _
 have hbl:=hb.below hbW
 have hlw:=hl.below hbW
 have HA:=hid (fun (kind:Int) (wx:World) (ha:Aft W wx)=>are_calls b p k x fl rl kind _ l wx (hbl.on ha) (hlw.below ha.below) hx.low)
 have HO:=hid (fun (kind m:Int) (hm:0≤m∧m < p.types.length) (wx:World) (ha:Aft W wx)=>are1_calls b p k x fl rl kind m wx (hbl.on ha) hm)
 have hws:W.heap.size=w.heap.size+1:=by rw [hW];simp
 have HF:=hid (fun (kind m:Int) (hm:0≤m∧m < p.types.length)=>hws ▸ (HO.out kind m hm W (Aft.refl W)))
 have h0:=Aft.refl W
 have HW:=hid hW
 have HBW:=hid hbW
 have l0:=later_cells k1 0 _ rfl
 have l1:=later_cells k1 1 _ rfl
 have l4:=later_cells k1 4 _ rfl
 have m0:=l0 W h0;have m1:=l1 W h0;have m4:=l4 W h0
 rw [hW] at m0 m1 m4
 have hty:0≤typ∧typ < p.types.length:=hx.typ (show answersB 4=true by decide)
 have HTY:=hid hty
 obtain ⟨x0,x1,rfl⟩:=two_of hx.len
 have HS:Hid (typedB p ⟨4,typ,ra1,rb1,n,args,frm⟩ [x0,x1]=((([x0,x1]:List Int).all fun m=>isK p.types m 1) && isK p.types typ 1)):=by
  show _=_
  simp [typedB,Bool.and_assoc]
 have HO1:=hid (fun (wx:World) (ha:Aft W wx)=>HO.out 1 typ hty wx ha)
 have HA1:=hid (fun (wx:World) (ha:Aft W wx)=>HA.out 1 wx ha)
 clear HO HA HF
 generalize typedB p ⟨4,typ,ra1,rb1,n,args,frm⟩ [x0,x1]=ans at *
 generalize (([x0,x1]:List Int).all fun m=>isK p.types m 1)=q1 at *
 generalize isK p.types typ 1=q2 at *
 clear hb hl hW hbW k1 hbl hlw hx l0 hws hty
 go_enter Tryz.func164,Tryz.ntmps164
 go_wp2_with fail
 rw [← HW.out]
 refine (HA1.out _ h0).mono ?_
 rintro e w1 ⟨rfl,hb1⟩
 have h1:=h0.go hb1
 have l1:=l1 w1 h1
 clear hb1 HA1
 cases q1 with
 | false =>
  go_wp2
  go_ret
  exact ⟨by rw [HS.out];rfl,h1.out HBW.out⟩
 | true =>
  go_wp2_with fail
  refine (HO1.out _ h1).mono ?_
  rintro e w2 ⟨rfl,hb2⟩
  have h2:=h1.go hb2
  clear hb2 HO1
  go_wp2
  go_ret
  exact ⟨by rw [HS.out];rfl,h2.out HBW.out⟩

theorem fits_arith5 (i:Ix) (aa fa la:Option Addr) (an ac fn fc ln lc:Nat) (l:List Int) (w:World) (hb:BdAt w b p k x fl rl) (hx:FitOk p i l) (hl:IntsAt w (.slice la ln lc) l) (hop:i.op=5) :
  Calls Tryz.prog 164 #[.pointer (some ⟨b,0,none⟩),ixV i (.slice aa an ac) (.slice fa fn fc),.slice la ln lc] w (BoolR (typedB p i l) w):=by
 obtain ⟨op,typ,ra1,rb1,n,args,frm⟩:=i
 have hop2:op=5:=hop
 clear hop
 subst hop2
 obtain ⟨W,hW⟩:∃ W,W=w.alloc (.cells #[.int .u8 5,.int .i64 typ,.int .i64 ra1,.int .i64 rb1,.int .i64 n,.slice aa an ac,.slice fa fn fc] 31):=⟨_,rfl⟩
 have hbW:Below w.heap.size w W:=by rw [hW];exact alloc_below _ _
 have k1:W.heap[w.heap.size]?=some (.cells #[.int .u8 5,.int .i64 typ,.int .i64 ra1,.int .i64 rb1,.int .i64 n,.slice aa an ac,.slice fa fn fc] 31 (0,0)):=by rw [hW];exact ShB.alloc_new _ _
 have hbl:=hb.below hbW
 have hlw:=hl.below hbW
 have HA:=hid (fun (kind:Int) (wx:World) (ha:Aft W wx)=>are_calls b p k x fl rl kind _ l wx (hbl.on ha) (hlw.below ha.below) hx.low)
 have HO:=hid (fun (kind m:Int) (hm:0≤m∧m < p.types.length) (wx:World) (ha:Aft W wx)=>are1_calls b p k x fl rl kind m wx (hbl.on ha) hm)
 have hws:W.heap.size=w.heap.size+1:=by rw [hW];simp
 have HF:=hid (fun (kind m:Int) (hm:0≤m∧m < p.types.length)=>hws ▸ (HO.out kind m hm W (Aft.refl W)))
 have h0:=Aft.refl W
 have HW:=hid hW
 have HBW:=hid hbW
 have l0:=later_cells k1 0 _ rfl
 have l1:=later_cells k1 1 _ rfl
 have l4:=later_cells k1 4 _ rfl
 have m0:=l0 W h0;have m1:=l1 W h0;have m4:=l4 W h0
 rw [hW] at m0 m1 m4
 have hty:0≤typ∧typ < p.types.length:=hx.typ (show answersB 5=true by decide)
 have HTY:=hid hty
 obtain ⟨x0,x1,rfl⟩:=two_of hx.len
 have HS:Hid (typedB p ⟨5,typ,ra1,rb1,n,args,frm⟩ [x0,x1]=((([x0,x1]:List Int).all fun m=>isK p.types m 1) && isK p.types typ 1)):=by
  show _=_
  simp [typedB,Bool.and_assoc]
 have HO1:=hid (fun (wx:World) (ha:Aft W wx)=>HO.out 1 typ hty wx ha)
 have HA1:=hid (fun (wx:World) (ha:Aft W wx)=>HA.out 1 wx ha)
 clear HO HA HF
 generalize typedB p ⟨5,typ,ra1,rb1,n,args,frm⟩ [x0,x1]=ans at *
 generalize (([x0,x1]:List Int).all fun m=>isK p.types m 1)=q1 at *
 generalize isK p.types typ 1=q2 at *
 clear hb hl hW hbW k1 hbl hlw hx l0 hws hty
 go_enter Tryz.func164,Tryz.ntmps164
 go_wp2_with fail
 rw [← HW.out]
 refine (HA1.out _ h0).mono ?_
 rintro e w1 ⟨rfl,hb1⟩
 have h1:=h0.go hb1
 have l1:=l1 w1 h1
 clear hb1 HA1
 cases q1 with
 | false =>
  go_wp2
  go_ret
  exact ⟨by rw [HS.out];rfl,h1.out HBW.out⟩
 | true =>
  go_wp2_with fail
  refine (HO1.out _ h1).mono ?_
  rintro e w2 ⟨rfl,hb2⟩
  have h2:=h1.go hb2
  clear hb2 HO1
  go_wp2
  go_ret
  exact ⟨by rw [HS.out];rfl,h2.out HBW.out⟩

theorem fits_arith6 (i:Ix) (aa fa la:Option Addr) (an ac fn fc ln lc:Nat) (l:List Int) (w:World) (hb:BdAt w b p k x fl rl) (hx:FitOk p i l) (hl:IntsAt w (.slice la ln lc) l) (hop:i.op=6) :
  Calls Tryz.prog 164 #[.pointer (some ⟨b,0,none⟩),ixV i (.slice aa an ac) (.slice fa fn fc),.slice la ln lc] w (BoolR (typedB p i l) w):=by
 obtain ⟨op,typ,ra1,rb1,n,args,frm⟩:=i
 have hop2:op=6:=hop
 clear hop
 subst hop2
 obtain ⟨W,hW⟩:∃ W,W=w.alloc (.cells #[.int .u8 6,.int .i64 typ,.int .i64 ra1,.int .i64 rb1,.int .i64 n,.slice aa an ac,.slice fa fn fc] 31):=⟨_,rfl⟩
 have hbW:Below w.heap.size w W:=by rw [hW];exact alloc_below _ _
 have k1:W.heap[w.heap.size]?=some (.cells #[.int .u8 6,.int .i64 typ,.int .i64 ra1,.int .i64 rb1,.int .i64 n,.slice aa an ac,.slice fa fn fc] 31 (0,0)):=by rw [hW];exact ShB.alloc_new _ _
 have hbl:=hb.below hbW
 have hlw:=hl.below hbW
 have HA:=hid (fun (kind:Int) (wx:World) (ha:Aft W wx)=>are_calls b p k x fl rl kind _ l wx (hbl.on ha) (hlw.below ha.below) hx.low)
 have HO:=hid (fun (kind m:Int) (hm:0≤m∧m < p.types.length) (wx:World) (ha:Aft W wx)=>are1_calls b p k x fl rl kind m wx (hbl.on ha) hm)
 have hws:W.heap.size=w.heap.size+1:=by rw [hW];simp
 have HF:=hid (fun (kind m:Int) (hm:0≤m∧m < p.types.length)=>hws ▸ (HO.out kind m hm W (Aft.refl W)))
 have h0:=Aft.refl W
 have HW:=hid hW
 have HBW:=hid hbW
 have l0:=later_cells k1 0 _ rfl
 have l1:=later_cells k1 1 _ rfl
 have l4:=later_cells k1 4 _ rfl
 have m0:=l0 W h0;have m1:=l1 W h0;have m4:=l4 W h0
 rw [hW] at m0 m1 m4
 have hty:0≤typ∧typ < p.types.length:=hx.typ (show answersB 6=true by decide)
 have HTY:=hid hty
 obtain ⟨x0,x1,rfl⟩:=two_of hx.len
 have HS:Hid (typedB p ⟨6,typ,ra1,rb1,n,args,frm⟩ [x0,x1]=((([x0,x1]:List Int).all fun m=>isK p.types m 1) && isK p.types typ 1)):=by
  show _=_
  simp [typedB,Bool.and_assoc]
 have HO1:=hid (fun (wx:World) (ha:Aft W wx)=>HO.out 1 typ hty wx ha)
 have HA1:=hid (fun (wx:World) (ha:Aft W wx)=>HA.out 1 wx ha)
 clear HO HA HF
 generalize typedB p ⟨6,typ,ra1,rb1,n,args,frm⟩ [x0,x1]=ans at *
 generalize (([x0,x1]:List Int).all fun m=>isK p.types m 1)=q1 at *
 generalize isK p.types typ 1=q2 at *
 clear hb hl hW hbW k1 hbl hlw hx l0 hws hty
 go_enter Tryz.func164,Tryz.ntmps164
 go_wp2_with fail
 rw [← HW.out]
 refine (HA1.out _ h0).mono ?_
 rintro e w1 ⟨rfl,hb1⟩
 have h1:=h0.go hb1
 have l1:=l1 w1 h1
 clear hb1 HA1
 cases q1 with
 | false =>
  go_wp2
  go_ret
  exact ⟨by rw [HS.out];rfl,h1.out HBW.out⟩
 | true =>
  go_wp2_with fail
  refine (HO1.out _ h1).mono ?_
  rintro e w2 ⟨rfl,hb2⟩
  have h2:=h1.go hb2
  clear hb2 HO1
  go_wp2
  go_ret
  exact ⟨by rw [HS.out];rfl,h2.out HBW.out⟩

theorem fits_arith7 (i:Ix) (aa fa la:Option Addr) (an ac fn fc ln lc:Nat) (l:List Int) (w:World) (hb:BdAt w b p k x fl rl) (hx:FitOk p i l) (hl:IntsAt w (.slice la ln lc) l) (hop:i.op=7) :
  Calls Tryz.prog 164 #[.pointer (some ⟨b,0,none⟩),ixV i (.slice aa an ac) (.slice fa fn fc),.slice la ln lc] w (BoolR (typedB p i l) w):=by
 obtain ⟨op,typ,ra1,rb1,n,args,frm⟩:=i
 have hop2:op=7:=hop
 clear hop
 subst hop2
 obtain ⟨W,hW⟩:∃ W,W=w.alloc (.cells #[.int .u8 7,.int .i64 typ,.int .i64 ra1,.int .i64 rb1,.int .i64 n,.slice aa an ac,.slice fa fn fc] 31):=⟨_,rfl⟩
 have hbW:Below w.heap.size w W:=by rw [hW];exact alloc_below _ _
 have k1:W.heap[w.heap.size]?=some (.cells #[.int .u8 7,.int .i64 typ,.int .i64 ra1,.int .i64 rb1,.int .i64 n,.slice aa an ac,.slice fa fn fc] 31 (0,0)):=by rw [hW];exact ShB.alloc_new _ _
 have hbl:=hb.below hbW
 have hlw:=hl.below hbW
 have HA:=hid (fun (kind:Int) (wx:World) (ha:Aft W wx)=>are_calls b p k x fl rl kind _ l wx (hbl.on ha) (hlw.below ha.below) hx.low)
 have HO:=hid (fun (kind m:Int) (hm:0≤m∧m < p.types.length) (wx:World) (ha:Aft W wx)=>are1_calls b p k x fl rl kind m wx (hbl.on ha) hm)
 have hws:W.heap.size=w.heap.size+1:=by rw [hW];simp
 have HF:=hid (fun (kind m:Int) (hm:0≤m∧m < p.types.length)=>hws ▸ (HO.out kind m hm W (Aft.refl W)))
 have h0:=Aft.refl W
 have HW:=hid hW
 have HBW:=hid hbW
 have l0:=later_cells k1 0 _ rfl
 have l1:=later_cells k1 1 _ rfl
 have l4:=later_cells k1 4 _ rfl
 have m0:=l0 W h0;have m1:=l1 W h0;have m4:=l4 W h0
 rw [hW] at m0 m1 m4
 have hty:0≤typ∧typ < p.types.length:=hx.typ (show answersB 7=true by decide)
 have HTY:=hid hty
 obtain ⟨x0,x1,rfl⟩:=two_of hx.len
 have HS:Hid (typedB p ⟨7,typ,ra1,rb1,n,args,frm⟩ [x0,x1]=((([x0,x1]:List Int).all fun m=>isK p.types m 1) && isK p.types typ 1)):=by
  show _=_
  simp [typedB,Bool.and_assoc]
 have HO1:=hid (fun (wx:World) (ha:Aft W wx)=>HO.out 1 typ hty wx ha)
 have HA1:=hid (fun (wx:World) (ha:Aft W wx)=>HA.out 1 wx ha)
 clear HO HA HF
 generalize typedB p ⟨7,typ,ra1,rb1,n,args,frm⟩ [x0,x1]=ans at *
 generalize (([x0,x1]:List Int).all fun m=>isK p.types m 1)=q1 at *
 generalize isK p.types typ 1=q2 at *
 clear hb hl hW hbW k1 hbl hlw hx l0 hws hty
 go_enter Tryz.func164,Tryz.ntmps164
 go_wp2_with fail
 rw [← HW.out]
 refine (HA1.out _ h0).mono ?_
 rintro e w1 ⟨rfl,hb1⟩
 have h1:=h0.go hb1
 have l1:=l1 w1 h1
 clear hb1 HA1
 cases q1 with
 | false =>
  go_wp2
  go_ret
  exact ⟨by rw [HS.out];rfl,h1.out HBW.out⟩
 | true =>
  go_wp2_with fail
  refine (HO1.out _ h1).mono ?_
  rintro e w2 ⟨rfl,hb2⟩
  have h2:=h1.go hb2
  clear hb2 HO1
  go_wp2
  go_ret
  exact ⟨by rw [HS.out];rfl,h2.out HBW.out⟩

theorem fits_arith8 (i:Ix) (aa fa la:Option Addr) (an ac fn fc ln lc:Nat) (l:List Int) (w:World) (hb:BdAt w b p k x fl rl) (hx:FitOk p i l) (hl:IntsAt w (.slice la ln lc) l) (hop:i.op=8) :
  Calls Tryz.prog 164 #[.pointer (some ⟨b,0,none⟩),ixV i (.slice aa an ac) (.slice fa fn fc),.slice la ln lc] w (BoolR (typedB p i l) w):=by
 obtain ⟨op,typ,ra1,rb1,n,args,frm⟩:=i
 have hop2:op=8:=hop
 clear hop
 subst hop2
 obtain ⟨W,hW⟩:∃ W,W=w.alloc (.cells #[.int .u8 8,.int .i64 typ,.int .i64 ra1,.int .i64 rb1,.int .i64 n,.slice aa an ac,.slice fa fn fc] 31):=⟨_,rfl⟩
 have hbW:Below w.heap.size w W:=by rw [hW];exact alloc_below _ _
 have k1:W.heap[w.heap.size]?=some (.cells #[.int .u8 8,.int .i64 typ,.int .i64 ra1,.int .i64 rb1,.int .i64 n,.slice aa an ac,.slice fa fn fc] 31 (0,0)):=by rw [hW];exact ShB.alloc_new _ _
 have hbl:=hb.below hbW
 have hlw:=hl.below hbW
 have HA:=hid (fun (kind:Int) (wx:World) (ha:Aft W wx)=>are_calls b p k x fl rl kind _ l wx (hbl.on ha) (hlw.below ha.below) hx.low)
 have HO:=hid (fun (kind m:Int) (hm:0≤m∧m < p.types.length) (wx:World) (ha:Aft W wx)=>are1_calls b p k x fl rl kind m wx (hbl.on ha) hm)
 have hws:W.heap.size=w.heap.size+1:=by rw [hW];simp
 have HF:=hid (fun (kind m:Int) (hm:0≤m∧m < p.types.length)=>hws ▸ (HO.out kind m hm W (Aft.refl W)))
 have h0:=Aft.refl W
 have HW:=hid hW
 have HBW:=hid hbW
 have l0:=later_cells k1 0 _ rfl
 have l1:=later_cells k1 1 _ rfl
 have l4:=later_cells k1 4 _ rfl
 have m0:=l0 W h0;have m1:=l1 W h0;have m4:=l4 W h0
 rw [hW] at m0 m1 m4
 have hty:0≤typ∧typ < p.types.length:=hx.typ (show answersB 8=true by decide)
 have HTY:=hid hty
 obtain ⟨x0,x1,rfl⟩:=two_of hx.len
 have HS:Hid (typedB p ⟨8,typ,ra1,rb1,n,args,frm⟩ [x0,x1]=((([x0,x1]:List Int).all fun m=>isK p.types m 1) && isK p.types typ 1)):=by
  show _=_
  simp [typedB,Bool.and_assoc]
 have HO1:=hid (fun (wx:World) (ha:Aft W wx)=>HO.out 1 typ hty wx ha)
 have HA1:=hid (fun (wx:World) (ha:Aft W wx)=>HA.out 1 wx ha)
 clear HO HA HF
 generalize typedB p ⟨8,typ,ra1,rb1,n,args,frm⟩ [x0,x1]=ans at *
 generalize (([x0,x1]:List Int).all fun m=>isK p.types m 1)=q1 at *
 generalize isK p.types typ 1=q2 at *
 clear hb hl hW hbW k1 hbl hlw hx l0 hws hty
 go_enter Tryz.func164,Tryz.ntmps164
 go_wp2_with fail
 rw [← HW.out]
 refine (HA1.out _ h0).mono ?_
 rintro e w1 ⟨rfl,hb1⟩
 have h1:=h0.go hb1
 have l1:=l1 w1 h1
 clear hb1 HA1
 cases q1 with
 | false =>
  go_wp2
  go_ret
  exact ⟨by rw [HS.out];rfl,h1.out HBW.out⟩
 | true =>
  go_wp2_with fail
  refine (HO1.out _ h1).mono ?_
  rintro e w2 ⟨rfl,hb2⟩
  have h2:=h1.go hb2
  clear hb2 HO1
  go_wp2
  go_ret
  exact ⟨by rw [HS.out];rfl,h2.out HBW.out⟩

theorem fits_arith9 (i:Ix) (aa fa la:Option Addr) (an ac fn fc ln lc:Nat) (l:List Int) (w:World) (hb:BdAt w b p k x fl rl) (hx:FitOk p i l) (hl:IntsAt w (.slice la ln lc) l) (hop:i.op=9) :
  Calls Tryz.prog 164 #[.pointer (some ⟨b,0,none⟩),ixV i (.slice aa an ac) (.slice fa fn fc),.slice la ln lc] w (BoolR (typedB p i l) w):=by
 obtain ⟨op,typ,ra1,rb1,n,args,frm⟩:=i
 have hop2:op=9:=hop
 clear hop
 subst hop2
 obtain ⟨W,hW⟩:∃ W,W=w.alloc (.cells #[.int .u8 9,.int .i64 typ,.int .i64 ra1,.int .i64 rb1,.int .i64 n,.slice aa an ac,.slice fa fn fc] 31):=⟨_,rfl⟩
 have hbW:Below w.heap.size w W:=by rw [hW];exact alloc_below _ _
 have k1:W.heap[w.heap.size]?=some (.cells #[.int .u8 9,.int .i64 typ,.int .i64 ra1,.int .i64 rb1,.int .i64 n,.slice aa an ac,.slice fa fn fc] 31 (0,0)):=by rw [hW];exact ShB.alloc_new _ _
 have hbl:=hb.below hbW
 have hlw:=hl.below hbW
 have HA:=hid (fun (kind:Int) (wx:World) (ha:Aft W wx)=>are_calls b p k x fl rl kind _ l wx (hbl.on ha) (hlw.below ha.below) hx.low)
 have HO:=hid (fun (kind m:Int) (hm:0≤m∧m < p.types.length) (wx:World) (ha:Aft W wx)=>are1_calls b p k x fl rl kind m wx (hbl.on ha) hm)
 have hws:W.heap.size=w.heap.size+1:=by rw [hW];simp
 have HF:=hid (fun (kind m:Int) (hm:0≤m∧m < p.types.length)=>hws ▸ (HO.out kind m hm W (Aft.refl W)))
 have h0:=Aft.refl W
 have HW:=hid hW
 have HBW:=hid hbW
 have l0:=later_cells k1 0 _ rfl
 have l1:=later_cells k1 1 _ rfl
 have l4:=later_cells k1 4 _ rfl
 have m0:=l0 W h0;have m1:=l1 W h0;have m4:=l4 W h0
 rw [hW] at m0 m1 m4
 have hty:0≤typ∧typ < p.types.length:=hx.typ (show answersB 9=true by decide)
 have HTY:=hid hty
 obtain ⟨x0,x1,rfl⟩:=two_of hx.len
 have HS:Hid (typedB p ⟨9,typ,ra1,rb1,n,args,frm⟩ [x0,x1]=((([x0,x1]:List Int).all fun m=>isK p.types m 1) && isK p.types typ 1)):=by
  show _=_
  simp [typedB,Bool.and_assoc]
 have HO1:=hid (fun (wx:World) (ha:Aft W wx)=>HO.out 1 typ hty wx ha)
 have HA1:=hid (fun (wx:World) (ha:Aft W wx)=>HA.out 1 wx ha)
 clear HO HA HF
 generalize typedB p ⟨9,typ,ra1,rb1,n,args,frm⟩ [x0,x1]=ans at *
 generalize (([x0,x1]:List Int).all fun m=>isK p.types m 1)=q1 at *
 generalize isK p.types typ 1=q2 at *
 clear hb hl hW hbW k1 hbl hlw hx l0 hws hty
 go_enter Tryz.func164,Tryz.ntmps164
 go_wp2_with fail
 rw [← HW.out]
 refine (HA1.out _ h0).mono ?_
 rintro e w1 ⟨rfl,hb1⟩
 have h1:=h0.go hb1
 have l1:=l1 w1 h1
 clear hb1 HA1
 cases q1 with
 | false =>
  go_wp2
  go_ret
  exact ⟨by rw [HS.out];rfl,h1.out HBW.out⟩
 | true =>
  go_wp2_with fail
  refine (HO1.out _ h1).mono ?_
  rintro e w2 ⟨rfl,hb2⟩
  have h2:=h1.go hb2
  clear hb2 HO1
  go_wp2
  go_ret
  exact ⟨by rw [HS.out];rfl,h2.out HBW.out⟩

theorem fits_int1 (i:Ix) (aa fa la:Option Addr) (an ac fn fc ln lc:Nat) (l:List Int) (w:World) (hb:BdAt w b p k x fl rl) (hx:FitOk p i l) (hl:IntsAt w (.slice la ln lc) l) (hop:i.op=1) :
  Calls Tryz.prog 164 #[.pointer (some ⟨b,0,none⟩),ixV i (.slice aa an ac) (.slice fa fn fc),.slice la ln lc] w (BoolR (typedB p i l) w):=by
 obtain ⟨op,typ,ra1,rb1,n,args,frm⟩:=i
 have hop2:op=1:=hop
 clear hop
 subst hop2
 obtain ⟨W,hW⟩:∃ W,W=w.alloc (.cells #[.int .u8 1,.int .i64 typ,.int .i64 ra1,.int .i64 rb1,.int .i64 n,.slice aa an ac,.slice fa fn fc] 31):=⟨_,rfl⟩
 have hbW:Below w.heap.size w W:=by rw [hW];exact alloc_below _ _
 have k1:W.heap[w.heap.size]?=some (.cells #[.int .u8 1,.int .i64 typ,.int .i64 ra1,.int .i64 rb1,.int .i64 n,.slice aa an ac,.slice fa fn fc] 31 (0,0)):=by rw [hW];exact ShB.alloc_new _ _
 have hbl:=hb.below hbW
 have hlw:=hl.below hbW
 have HA:=hid (fun (kind:Int) (wx:World) (ha:Aft W wx)=>are_calls b p k x fl rl kind _ l wx (hbl.on ha) (hlw.below ha.below) hx.low)
 have HO:=hid (fun (kind m:Int) (hm:0≤m∧m < p.types.length) (wx:World) (ha:Aft W wx)=>are1_calls b p k x fl rl kind m wx (hbl.on ha) hm)
 have hws:W.heap.size=w.heap.size+1:=by rw [hW];simp
 have HF:=hid (fun (kind m:Int) (hm:0≤m∧m < p.types.length)=>hws ▸ (HO.out kind m hm W (Aft.refl W)))
 have h0:=Aft.refl W
 have HW:=hid hW
 have HBW:=hid hbW
 have l0:=later_cells k1 0 _ rfl
 have l1:=later_cells k1 1 _ rfl
 have l4:=later_cells k1 4 _ rfl
 have m0:=l0 W h0;have m1:=l1 W h0;have m4:=l4 W h0
 rw [hW] at m0 m1 m4
 have hty:0≤typ∧typ < p.types.length:=hx.typ (show answersB 1=true by decide)
 have HTY:=hid hty
 have HS:Hid (typedB p ⟨1,typ,ra1,rb1,n,args,frm⟩ l=isK p.types typ 1):=by
  show _=_
  simp [typedB]
 have HO1:=hid (HF.out 1 typ hty)
 clear HO HA HF
 generalize typedB p ⟨1,typ,ra1,rb1,n,args,frm⟩ l=ans at *
 generalize isK p.types typ 1=q2 at *
 clear hb hl hW hbW k1 hbl hlw hx l0 hws hty l1 l4
 go_enter Tryz.func164,Tryz.ntmps164
 go_upto_if 18 with fail
 refine wp_cond_true rfl ?_
 go_upto_if 18 with fail
 refine wp_cond_true rfl (wp_exit ?_)
 repeat (first | with_reducible refine then_exit ?_ | with_reducible refine in_here ?_ | with_reducible refine in_other (by decide) ?_)
 with_reducible refine then_normal ?_
 go_wp2_with fail
 rw [← HW.out]
 refine HO1.out.mono ?_
 rintro e w2 ⟨rfl,hb2⟩
 have h2:=h0.go hb2
 clear hb2 HO1
 go_wp2
 go_ret
 exact ⟨by rw [HS.out];rfl,h2.out HBW.out⟩

theorem fits_int20 (i:Ix) (aa fa la:Option Addr) (an ac fn fc ln lc:Nat) (l:List Int) (w:World) (hb:BdAt w b p k x fl rl) (hx:FitOk p i l) (hl:IntsAt w (.slice la ln lc) l) (hop:i.op=20) :
  Calls Tryz.prog 164 #[.pointer (some ⟨b,0,none⟩),ixV i (.slice aa an ac) (.slice fa fn fc),.slice la ln lc] w (BoolR (typedB p i l) w):=by
 obtain ⟨op,typ,ra1,rb1,n,args,frm⟩:=i
 have hop2:op=20:=hop
 clear hop
 subst hop2
 obtain ⟨W,hW⟩:∃ W,W=w.alloc (.cells #[.int .u8 20,.int .i64 typ,.int .i64 ra1,.int .i64 rb1,.int .i64 n,.slice aa an ac,.slice fa fn fc] 31):=⟨_,rfl⟩
 have hbW:Below w.heap.size w W:=by rw [hW];exact alloc_below _ _
 have k1:W.heap[w.heap.size]?=some (.cells #[.int .u8 20,.int .i64 typ,.int .i64 ra1,.int .i64 rb1,.int .i64 n,.slice aa an ac,.slice fa fn fc] 31 (0,0)):=by rw [hW];exact ShB.alloc_new _ _
 have hbl:=hb.below hbW
 have hlw:=hl.below hbW
 have HA:=hid (fun (kind:Int) (wx:World) (ha:Aft W wx)=>are_calls b p k x fl rl kind _ l wx (hbl.on ha) (hlw.below ha.below) hx.low)
 have HO:=hid (fun (kind m:Int) (hm:0≤m∧m < p.types.length) (wx:World) (ha:Aft W wx)=>are1_calls b p k x fl rl kind m wx (hbl.on ha) hm)
 have hws:W.heap.size=w.heap.size+1:=by rw [hW];simp
 have HF:=hid (fun (kind m:Int) (hm:0≤m∧m < p.types.length)=>hws ▸ (HO.out kind m hm W (Aft.refl W)))
 have h0:=Aft.refl W
 have HW:=hid hW
 have HBW:=hid hbW
 have l0:=later_cells k1 0 _ rfl
 have l1:=later_cells k1 1 _ rfl
 have l4:=later_cells k1 4 _ rfl
 have m0:=l0 W h0;have m1:=l1 W h0;have m4:=l4 W h0
 rw [hW] at m0 m1 m4
 have hty:0≤typ∧typ < p.types.length:=hx.typ (show answersB 20=true by decide)
 have HTY:=hid hty
 have HS:Hid (typedB p ⟨20,typ,ra1,rb1,n,args,frm⟩ l=isK p.types typ 1):=by
  show _=_
  simp [typedB]
 have HO1:=hid (HF.out 1 typ hty)
 clear HO HA HF
 generalize typedB p ⟨20,typ,ra1,rb1,n,args,frm⟩ l=ans at *
 generalize isK p.types typ 1=q2 at *
 clear hb hl hW hbW k1 hbl hlw hx l0 hws hty l1 l4
 go_enter Tryz.func164,Tryz.ntmps164
 go_upto_if 18 with fail
 refine wp_cond_false rfl ?_
 go_upto_if 18 with fail
 refine wp_cond_true rfl (wp_exit ?_)
 repeat (first | with_reducible refine then_exit ?_ | with_reducible refine in_here ?_ | with_reducible refine in_other (by decide) ?_)
 with_reducible refine then_normal ?_
 go_wp2_with fail
 rw [← HW.out]
 refine HO1.out.mono ?_
 rintro e w2 ⟨rfl,hb2⟩
 have h2:=h0.go hb2
 clear hb2 HO1
 go_wp2
 go_ret
 exact ⟨by rw [HS.out];rfl,h2.out HBW.out⟩

theorem fits_ptr11 (i:Ix) (aa fa la:Option Addr) (an ac fn fc ln lc:Nat) (l:List Int) (w:World) (hb:BdAt w b p k x fl rl) (hx:FitOk p i l) (hl:IntsAt w (.slice la ln lc) l) (hop:i.op=11) :
  Calls Tryz.prog 164 #[.pointer (some ⟨b,0,none⟩),ixV i (.slice aa an ac) (.slice fa fn fc),.slice la ln lc] w (BoolR (typedB p i l) w):=by
 obtain ⟨op,typ,ra1,rb1,n,args,frm⟩:=i
 have hop2:op=11:=hop
 clear hop
 subst hop2
 obtain ⟨W,hW⟩:∃ W,W=w.alloc (.cells #[.int .u8 11,.int .i64 typ,.int .i64 ra1,.int .i64 rb1,.int .i64 n,.slice aa an ac,.slice fa fn fc] 31):=⟨_,rfl⟩
 have hbW:Below w.heap.size w W:=by rw [hW];exact alloc_below _ _
 have k1:W.heap[w.heap.size]?=some (.cells #[.int .u8 11,.int .i64 typ,.int .i64 ra1,.int .i64 rb1,.int .i64 n,.slice aa an ac,.slice fa fn fc] 31 (0,0)):=by rw [hW];exact ShB.alloc_new _ _
 have hbl:=hb.below hbW
 have hlw:=hl.below hbW
 have HA:=hid (fun (kind:Int) (wx:World) (ha:Aft W wx)=>are_calls b p k x fl rl kind _ l wx (hbl.on ha) (hlw.below ha.below) hx.low)
 have HO:=hid (fun (kind m:Int) (hm:0≤m∧m < p.types.length) (wx:World) (ha:Aft W wx)=>are1_calls b p k x fl rl kind m wx (hbl.on ha) hm)
 have hws:W.heap.size=w.heap.size+1:=by rw [hW];simp
 have HF:=hid (fun (kind m:Int) (hm:0≤m∧m < p.types.length)=>hws ▸ (HO.out kind m hm W (Aft.refl W)))
 have h0:=Aft.refl W
 have HW:=hid hW
 have HBW:=hid hbW
 have l0:=later_cells k1 0 _ rfl
 have l1:=later_cells k1 1 _ rfl
 have l4:=later_cells k1 4 _ rfl
 have m0:=l0 W h0;have m1:=l1 W h0;have m4:=l4 W h0
 rw [hW] at m0 m1 m4
 have hty:0≤typ∧typ < p.types.length:=hx.typ (show answersB 11=true by decide)
 have HTY:=hid hty
 have HS:Hid (typedB p ⟨11,typ,ra1,rb1,n,args,frm⟩ l=isK p.types typ 2):=by
  show _=_
  simp [typedB]
 have HO1:=hid (HF.out 2 typ hty)
 clear HO HA HF
 generalize typedB p ⟨11,typ,ra1,rb1,n,args,frm⟩ l=ans at *
 generalize isK p.types typ 2=q2 at *
 clear hb hl hW hbW k1 hbl hlw hx l0 hws hty l1 l4
 go_enter Tryz.func164,Tryz.ntmps164
 go_upto_if 25 with fail
 refine wp_cond_true rfl ?_
 go_upto_if 25 with fail
 refine wp_cond_true rfl (wp_exit ?_)
 repeat (first | with_reducible refine then_exit ?_ | with_reducible refine in_here ?_ | with_reducible refine in_other (by decide) ?_)
 with_reducible refine then_normal ?_
 go_wp2_with fail
 rw [← HW.out]
 refine HO1.out.mono ?_
 rintro e w2 ⟨rfl,hb2⟩
 have h2:=h0.go hb2
 clear hb2 HO1
 go_wp2
 go_ret
 exact ⟨by rw [HS.out];rfl,h2.out HBW.out⟩

theorem fits_ptr12 (i:Ix) (aa fa la:Option Addr) (an ac fn fc ln lc:Nat) (l:List Int) (w:World) (hb:BdAt w b p k x fl rl) (hx:FitOk p i l) (hl:IntsAt w (.slice la ln lc) l) (hop:i.op=12) :
  Calls Tryz.prog 164 #[.pointer (some ⟨b,0,none⟩),ixV i (.slice aa an ac) (.slice fa fn fc),.slice la ln lc] w (BoolR (typedB p i l) w):=by
 obtain ⟨op,typ,ra1,rb1,n,args,frm⟩:=i
 have hop2:op=12:=hop
 clear hop
 subst hop2
 obtain ⟨W,hW⟩:∃ W,W=w.alloc (.cells #[.int .u8 12,.int .i64 typ,.int .i64 ra1,.int .i64 rb1,.int .i64 n,.slice aa an ac,.slice fa fn fc] 31):=⟨_,rfl⟩
 have hbW:Below w.heap.size w W:=by rw [hW];exact alloc_below _ _
 have k1:W.heap[w.heap.size]?=some (.cells #[.int .u8 12,.int .i64 typ,.int .i64 ra1,.int .i64 rb1,.int .i64 n,.slice aa an ac,.slice fa fn fc] 31 (0,0)):=by rw [hW];exact ShB.alloc_new _ _
 have hbl:=hb.below hbW
 have hlw:=hl.below hbW
 have HA:=hid (fun (kind:Int) (wx:World) (ha:Aft W wx)=>are_calls b p k x fl rl kind _ l wx (hbl.on ha) (hlw.below ha.below) hx.low)
 have HO:=hid (fun (kind m:Int) (hm:0≤m∧m < p.types.length) (wx:World) (ha:Aft W wx)=>are1_calls b p k x fl rl kind m wx (hbl.on ha) hm)
 have hws:W.heap.size=w.heap.size+1:=by rw [hW];simp
 have HF:=hid (fun (kind m:Int) (hm:0≤m∧m < p.types.length)=>hws ▸ (HO.out kind m hm W (Aft.refl W)))
 have h0:=Aft.refl W
 have HW:=hid hW
 have HBW:=hid hbW
 have l0:=later_cells k1 0 _ rfl
 have l1:=later_cells k1 1 _ rfl
 have l4:=later_cells k1 4 _ rfl
 have m0:=l0 W h0;have m1:=l1 W h0;have m4:=l4 W h0
 rw [hW] at m0 m1 m4
 have hty:0≤typ∧typ < p.types.length:=hx.typ (show answersB 12=true by decide)
 have HTY:=hid hty
 have HS:Hid (typedB p ⟨12,typ,ra1,rb1,n,args,frm⟩ l=isK p.types typ 2):=by
  show _=_
  simp [typedB]
 have HO1:=hid (HF.out 2 typ hty)
 clear HO HA HF
 generalize typedB p ⟨12,typ,ra1,rb1,n,args,frm⟩ l=ans at *
 generalize isK p.types typ 2=q2 at *
 clear hb hl hW hbW k1 hbl hlw hx l0 hws hty l1 l4
 go_enter Tryz.func164,Tryz.ntmps164
 go_upto_if 25 with fail
 refine wp_cond_false rfl ?_
 go_upto_if 25 with fail
 refine wp_cond_true rfl (wp_exit ?_)
 repeat (first | with_reducible refine then_exit ?_ | with_reducible refine in_here ?_ | with_reducible refine in_other (by decide) ?_)
 with_reducible refine then_normal ?_
 go_wp2_with fail
 rw [← HW.out]
 refine HO1.out.mono ?_
 rintro e w2 ⟨rfl,hb2⟩
 have h2:=h0.go hb2
 clear hb2 HO1
 go_wp2
 go_ret
 exact ⟨by rw [HS.out];rfl,h2.out HBW.out⟩

theorem fits_free (i:Ix) (aa fa la:Option Addr) (an ac fn fc ln lc:Nat) (l:List Int) (w:World) (hb:BdAt w b p k x fl rl) (hx:FitOk p i l) (hl:IntsAt w (.slice la ln lc) l) (hop:i.op=13) :
  Calls Tryz.prog 164 #[.pointer (some ⟨b,0,none⟩),ixV i (.slice aa an ac) (.slice fa fn fc),.slice la ln lc] w (BoolR (typedB p i l) w):=by
 obtain ⟨op,typ,ra1,rb1,n,args,frm⟩:=i
 have hop2:op=13:=hop
 clear hop
 subst hop2
 obtain ⟨W,hW⟩:∃ W,W=w.alloc (.cells #[.int .u8 13,.int .i64 typ,.int .i64 ra1,.int .i64 rb1,.int .i64 n,.slice aa an ac,.slice fa fn fc] 31):=⟨_,rfl⟩
 have hbW:Below w.heap.size w W:=by rw [hW];exact alloc_below _ _
 have k1:W.heap[w.heap.size]?=some (.cells #[.int .u8 13,.int .i64 typ,.int .i64 ra1,.int .i64 rb1,.int .i64 n,.slice aa an ac,.slice fa fn fc] 31 (0,0)):=by rw [hW];exact ShB.alloc_new _ _
 have hbl:=hb.below hbW
 have hlw:=hl.below hbW
 have HA:=hid (fun (kind:Int) (wx:World) (ha:Aft W wx)=>are_calls b p k x fl rl kind _ l wx (hbl.on ha) (hlw.below ha.below) hx.low)
 have HO:=hid (fun (kind m:Int) (hm:0≤m∧m < p.types.length) (wx:World) (ha:Aft W wx)=>are1_calls b p k x fl rl kind m wx (hbl.on ha) hm)
 have hws:W.heap.size=w.heap.size+1:=by rw [hW];simp
 have HF:=hid (fun (kind m:Int) (hm:0≤m∧m < p.types.length)=>hws ▸ (HO.out kind m hm W (Aft.refl W)))
 have h0:=Aft.refl W
 have HW:=hid hW
 have HBW:=hid hbW
 have l0:=later_cells k1 0 _ rfl
 have l1:=later_cells k1 1 _ rfl
 have l4:=later_cells k1 4 _ rfl
 have m0:=l0 W h0;have m1:=l1 W h0;have m4:=l4 W h0
 rw [hW] at m0 m1 m4
 obtain ⟨x0,rfl⟩:=one_of hx.len
 have HS:Hid (typedB p ⟨13,typ,ra1,rb1,n,args,frm⟩ [x0]=isK p.types x0 2):=by
  show _=_
  simp [typedB]
 have e1:(([x0]:List Int).all fun m=>isK p.types m 2)=isK p.types x0 2:=by simp
 have HA1:=hid (e1 ▸ HA.out 2 W h0)
 clear e1
 clear HO HA HF
 generalize typedB p ⟨13,typ,ra1,rb1,n,args,frm⟩ [x0]=ans at *
 generalize isK p.types x0 2=q1 at *
 clear hb hl hW hbW k1 hbl hlw hx l0 hws l1 l4
 go_enter Tryz.func164,Tryz.ntmps164
 go_upto_if 30 with fail
 refine wp_cond_true rfl (wp_exit ?_)
 repeat (first | with_reducible refine then_exit ?_ | with_reducible refine in_here ?_ | with_reducible refine in_other (by decide) ?_)
 with_reducible refine then_normal ?_
 go_wp2_with fail
 rw [← HW.out]
 refine HA1.out.mono ?_
 rintro e w1 ⟨rfl,hb1⟩
 have h1:=h0.go hb1
 clear hb1 HA1
 go_wp2
 go_ret
 exact ⟨by rw [HS.out];rfl,h1.out HBW.out⟩

theorem fits_print (i:Ix) (aa fa la:Option Addr) (an ac fn fc ln lc:Nat) (l:List Int) (w:World) (hb:BdAt w b p k x fl rl) (hx:FitOk p i l) (hl:IntsAt w (.slice la ln lc) l) (hop:i.op=21) :
  Calls Tryz.prog 164 #[.pointer (some ⟨b,0,none⟩),ixV i (.slice aa an ac) (.slice fa fn fc),.slice la ln lc] w (BoolR (typedB p i l) w):=by
 obtain ⟨op,typ,ra1,rb1,n,args,frm⟩:=i
 have hop2:op=21:=hop
 clear hop
 subst hop2
 obtain ⟨W,hW⟩:∃ W,W=w.alloc (.cells #[.int .u8 21,.int .i64 typ,.int .i64 ra1,.int .i64 rb1,.int .i64 n,.slice aa an ac,.slice fa fn fc] 31):=⟨_,rfl⟩
 have hbW:Below w.heap.size w W:=by rw [hW];exact alloc_below _ _
 have k1:W.heap[w.heap.size]?=some (.cells #[.int .u8 21,.int .i64 typ,.int .i64 ra1,.int .i64 rb1,.int .i64 n,.slice aa an ac,.slice fa fn fc] 31 (0,0)):=by rw [hW];exact ShB.alloc_new _ _
 have hbl:=hb.below hbW
 have hlw:=hl.below hbW
 have HA:=hid (fun (kind:Int) (wx:World) (ha:Aft W wx)=>are_calls b p k x fl rl kind _ l wx (hbl.on ha) (hlw.below ha.below) hx.low)
 have HO:=hid (fun (kind m:Int) (hm:0≤m∧m < p.types.length) (wx:World) (ha:Aft W wx)=>are1_calls b p k x fl rl kind m wx (hbl.on ha) hm)
 have hws:W.heap.size=w.heap.size+1:=by rw [hW];simp
 have HF:=hid (fun (kind m:Int) (hm:0≤m∧m < p.types.length)=>hws ▸ (HO.out kind m hm W (Aft.refl W)))
 have h0:=Aft.refl W
 have HW:=hid hW
 have HBW:=hid hbW
 have l0:=later_cells k1 0 _ rfl
 have l1:=later_cells k1 1 _ rfl
 have l4:=later_cells k1 4 _ rfl
 have m0:=l0 W h0;have m1:=l1 W h0;have m4:=l4 W h0
 rw [hW] at m0 m1 m4
 obtain ⟨x0,rfl⟩:=one_of hx.len
 have HS:Hid (typedB p ⟨21,typ,ra1,rb1,n,args,frm⟩ [x0]=isK p.types x0 1):=by
  show _=_
  simp [typedB]
 have e1:(([x0]:List Int).all fun m=>isK p.types m 1)=isK p.types x0 1:=by simp
 have HA1:=hid (e1 ▸ HA.out 1 W h0)
 clear e1
 clear HO HA HF
 generalize typedB p ⟨21,typ,ra1,rb1,n,args,frm⟩ [x0]=ans at *
 generalize isK p.types x0 1=q1 at *
 clear hb hl hW hbW k1 hbl hlw hx l0 hws l1 l4
 go_enter Tryz.func164,Tryz.ntmps164
 go_upto_if 32 with fail
 refine wp_cond_true rfl (wp_exit ?_)
 repeat (first | with_reducible refine then_exit ?_ | with_reducible refine in_here ?_ | with_reducible refine in_other (by decide) ?_)
 with_reducible refine then_normal ?_
 go_wp2_with fail
 rw [← HW.out]
 refine HA1.out.mono ?_
 rintro e w1 ⟨rfl,hb1⟩
 have h1:=h0.go hb1
 clear hb1 HA1
 go_wp2
 go_ret
 exact ⟨by rw [HS.out];rfl,h1.out HBW.out⟩

theorem fits_null (i:Ix) (aa fa la:Option Addr) (an ac fn fc ln lc:Nat) (l:List Int) (w:World) (hb:BdAt w b p k x fl rl) (hx:FitOk p i l) (hl:IntsAt w (.slice la ln lc) l) (hop:i.op=2) :
  Calls Tryz.prog 164 #[.pointer (some ⟨b,0,none⟩),ixV i (.slice aa an ac) (.slice fa fn fc),.slice la ln lc] w (BoolR (typedB p i l) w):=by
 obtain ⟨op,typ,ra1,rb1,n,args,frm⟩:=i
 have hop2:op=2:=hop
 clear hop
 subst hop2
 obtain ⟨W,hW⟩:∃ W,W=w.alloc (.cells #[.int .u8 2,.int .i64 typ,.int .i64 ra1,.int .i64 rb1,.int .i64 n,.slice aa an ac,.slice fa fn fc] 31):=⟨_,rfl⟩
 have hbW:Below w.heap.size w W:=by rw [hW];exact alloc_below _ _
 have k1:W.heap[w.heap.size]?=some (.cells #[.int .u8 2,.int .i64 typ,.int .i64 ra1,.int .i64 rb1,.int .i64 n,.slice aa an ac,.slice fa fn fc] 31 (0,0)):=by rw [hW];exact ShB.alloc_new _ _
 have hbl:=hb.below hbW
 have hlw:=hl.below hbW
 have HA:=hid (fun (kind:Int) (wx:World) (ha:Aft W wx)=>are_calls b p k x fl rl kind _ l wx (hbl.on ha) (hlw.below ha.below) hx.low)
 have HO:=hid (fun (kind m:Int) (hm:0≤m∧m < p.types.length) (wx:World) (ha:Aft W wx)=>are1_calls b p k x fl rl kind m wx (hbl.on ha) hm)
 have hws:W.heap.size=w.heap.size+1:=by rw [hW];simp
 have HF:=hid (fun (kind m:Int) (hm:0≤m∧m < p.types.length)=>hws ▸ (HO.out kind m hm W (Aft.refl W)))
 have h0:=Aft.refl W
 have HW:=hid hW
 have HBW:=hid hbW
 have l0:=later_cells k1 0 _ rfl
 have l1:=later_cells k1 1 _ rfl
 have l4:=later_cells k1 4 _ rfl
 have m0:=l0 W h0;have m1:=l1 W h0;have m4:=l4 W h0
 rw [hW] at m0 m1 m4
 have hty:0≤typ∧typ < p.types.length:=hx.typ (show answersB 2=true by decide)
 have HTY:=hid hty
 have HS:Hid (typedB p ⟨2,typ,ra1,rb1,n,args,frm⟩ l=(isK p.types typ 3 || isK p.types typ 2)):=by
  show _=_
  simp [typedB,Bool.or_comm]
 have HO3:=hid (HF.out 3 typ hty)
 have HO2:=hid (fun (wx:World) (ha:Aft W wx)=>HO.out 2 typ hty wx ha)
 clear HO HA HF
 generalize typedB p ⟨2,typ,ra1,rb1,n,args,frm⟩ l=ans at *
 generalize isK p.types typ 3=q3 at *
 generalize isK p.types typ 2=q2 at *
 clear hb hl hW hbW k1 hbl hlw hx l0 hws hty l4
 go_enter Tryz.func164,Tryz.ntmps164
 go_upto_if 23 with fail
 refine wp_cond_true rfl (wp_exit ?_)
 repeat (first | with_reducible refine then_exit ?_ | with_reducible refine in_here ?_ | with_reducible refine in_other (by decide) ?_)
 with_reducible refine then_normal ?_
 go_wp2_with fail
 rw [← HW.out]
 refine HO3.out.mono ?_
 rintro e w1 ⟨rfl,hb1⟩
 have h1:=h0.go hb1
 have l1:=l1 w1 h1
 clear hb1 HO3
 cases q3 with
 | true =>
  go_wp2
  go_ret
  exact ⟨by rw [HS.out];rfl,h1.out HBW.out⟩
 | false =>
  go_wp2_with fail
  refine (HO2.out _ h1).mono ?_
  rintro e w2 ⟨rfl,hb2⟩
  have h2:=h1.go hb2
  clear hb2 HO2
  go_wp2
  go_ret
  exact ⟨by rw [HS.out];rfl,h2.out HBW.out⟩

theorem fits_fn (i:Ix) (aa fa la:Option Addr) (an ac fn fc ln lc:Nat) (l:List Int) (w:World) (hb:BdAt w b p k x fl rl) (hx:FitOk p i l) (hl:IntsAt w (.slice la ln lc) l) (hop:i.op=3) :
  Calls Tryz.prog 164 #[.pointer (some ⟨b,0,none⟩),ixV i (.slice aa an ac) (.slice fa fn fc),.slice la ln lc] w (BoolR (typedB p i l) w):=by
 obtain ⟨op,typ,ra1,rb1,n,args,frm⟩:=i
 have hop2:op=3:=hop
 clear hop
 subst hop2
 obtain ⟨W,hW⟩:∃ W,W=w.alloc (.cells #[.int .u8 3,.int .i64 typ,.int .i64 ra1,.int .i64 rb1,.int .i64 n,.slice aa an ac,.slice fa fn fc] 31):=⟨_,rfl⟩
 have hbW:Below w.heap.size w W:=by rw [hW];exact alloc_below _ _
 have k1:W.heap[w.heap.size]?=some (.cells #[.int .u8 3,.int .i64 typ,.int .i64 ra1,.int .i64 rb1,.int .i64 n,.slice aa an ac,.slice fa fn fc] 31 (0,0)):=by rw [hW];exact ShB.alloc_new _ _
 have hbl:=hb.below hbW
 have hlw:=hl.below hbW
 have HA:=hid (fun (kind:Int) (wx:World) (ha:Aft W wx)=>are_calls b p k x fl rl kind _ l wx (hbl.on ha) (hlw.below ha.below) hx.low)
 have HO:=hid (fun (kind m:Int) (hm:0≤m∧m < p.types.length) (wx:World) (ha:Aft W wx)=>are1_calls b p k x fl rl kind m wx (hbl.on ha) hm)
 have hws:W.heap.size=w.heap.size+1:=by rw [hW];simp
 have HF:=hid (fun (kind m:Int) (hm:0≤m∧m < p.types.length)=>hws ▸ (HO.out kind m hm W (Aft.refl W)))
 have h0:=Aft.refl W
 have HW:=hid hW
 have HBW:=hid hbW
 have l0:=later_cells k1 0 _ rfl
 have l1:=later_cells k1 1 _ rfl
 have l4:=later_cells k1 4 _ rfl
 have m0:=l0 W h0;have m1:=l1 W h0;have m4:=l4 W h0
 rw [hW] at m0 m1 m4
 obtain ⟨n0,n1⟩:=hx.n (Or.inl rfl)
 obtain ⟨j,hj⟩:∃ j:Nat,n=(j:Int):=⟨n.toNat,by show n=_;have:0≤n:=n0;omega⟩
 subst hj
 have hjl:j < p.funcs.length:=by have:(j:Int) < _:=n1;omega
 obtain ⟨y,hy⟩:=some_at hjl
 have HS:Hid (typedB p ⟨3,typ,ra1,rb1,(j:Int),args,frm⟩ l=(typ == y.sig)):=by
  show _=_
  rw [Bool.eq_iff_iff]
  simp [typedB,sigAt,hy]
 obtain ⟨_,_,_,_,_,_,fa2,fc2,_,_,_,_,kb,_,_,_,hfs,_,_⟩:=id hbl
 have lb:W.cell? ⟨b,4,none⟩=some (.slice fa2 p.funcs.length fc2):=later_cells kb 4 _ rfl W h0
 obtain ⟨fg,fo,rfl,_,vb,f0,_,hbx⟩:=RowAt.at hfs j hjl
 have hye:(p.funcs[j]).sig=y.sig:=by obtain ⟨h,e⟩:=List.getElem?_eq_some_iff.1 hy;rw [e]
 rw [hye] at f0
 have hjn:(j:Int) < (p.funcs.length:Int):=by omega
 rw [hW] at lb f0
 clear hbx kb hfs hye n0 n1 HO HA
 generalize typedB p ⟨3,typ,ra1,rb1,(j:Int),args,frm⟩ l=ans at *
 generalize y.sig=ys at *
 generalize p.funcs.length=nf at *
 clear hb hl hW hbW k1 hbl hlw hx l0 hws l1 l4
 go_enter Tryz.func164,Tryz.ntmps164
 go_upto_if 28 with fail
 refine wp_cond_true rfl (wp_exit ?_)
 repeat (first | with_reducible refine then_exit ?_ | with_reducible refine in_here ?_ | with_reducible refine in_other (by decide) ?_)
 with_reducible refine then_normal ?_
 go_wp2
 go_quiet (fail)
 go_wp2
 go_ret
 exact ⟨by rw [HS.out];rfl,by have:=below_drewN HBW.out nq;rw [HW.out] at this;exact this⟩
end Go.Proofs.YtpejpnffcepdlaaGreatDoor.SzF
