/- Walk over the reader's block. Walk over the reader's function. Types as the reader gathers them; the deferred closure of program. Walk over read.program. Walk over read.program, whole. -/
import Derived.Test.YtpejpnffcepdlaaGreatDoorVRgZToRgY
import Derived.Test.YtpejpnffcepdlaaGreatDoorVRcJToRcQ
import Derived.Test.YtpejpnffcepdlaaGreatDoorVRcTToRcI
import Derived.Deep.Cut
import Derived.BigRegion
import Derived.Test.YtpejpnffcepdlaaGreatDoorVTyW
import Derived.Defers
import Derived.Recover
set_option maxRecDepth 100000
set_option maxHeartbeats 16000000
namespace Go.Proofs.YtpejpnffcepdlaaGreatDoor.RcR
open Go.RowKit Go.Lib TyM TyP ShM ShP ShB IntO SetP LxM LxJ LxY RwO RdM RdN RdV RdB Aft RgZ RcP RcA RcB RcC RcD RcT RcE RcO RcL RcQ

variable {W:World} {b:Nat} {L:List Ln} {ws:Ln} {reg:Int} {tv:Value} {w:World}

def preB (xs:List Ix) (o:Option (Bx × Nat)):Option (Bx × Nat):=o.map fun r=>(⟨xs++r.1.ins,r.1.en⟩,r.2+xs.length)
theorem preB_nil (o:Option (Bx × Nat)):preB [] o=o:=by
 cases o with
 | none=>rfl
 | some r=>rfl
theorem preB_pre (xs ys:List Ix) (o:Option (Bx × Nat)):preB xs (preB ys o)=preB (xs++ys) o:=by
 cases o with
 | none=>rfl
 | some r =>
  unfold preB
  simp
  omega
theorem block_step {l:Ln} {M:List Ln} {q:Int} {y:Ix} (he:isEndB (w0 l)=false) (hy:insP l q=some y):blockP (l :: M) q=preB [y] (blockP M (q+1)):=by
 rw [blockP,if_neg (by rw [he];decide),hy]
 rfl
theorem row_new {ρ:Type} (w:World) (cs:Array Value) (ty:TypeId) (y:ρ) (f:ρ→List Value) (h:f y=cs.toList):∀ j u,(rowOf f [y])[j]?=some u→(w.alloc (.cells cs ty)).cell? ⟨w.heap.size,0+j,none⟩=some u:=fun j u hj=>by
 rw [Nat.zero_add];unfold World.cell?;rw [alloc_new];rw [rowOf_one,h] at hj;simpa using hj
theorem set14_world (w:World) (b:Nat) (t:TypeId) (x0 x1 x2 x3 x4:Value) (u1 u2 u3 u4:Value) (h:w.heap[b]?=some (.cells #[x0,x1,x2,x3,x4] t (0,0))) :
  ∃ W3,W3=((((w.setCell ⟨b,1,none⟩ u1).setCell ⟨b,2,none⟩ u2).setCell ⟨b,3,none⟩ u3).setCell ⟨b,4,none⟩ u4)∧(∀ k,k≠b→W3.heap[k]?=w.heap[k]?)∧W3.heap[b]?=some (.cells #[x0,u1,u2,u3,u4] t (0,0))∧∀ B a,Below B a w→B≤b→Below B a W3 :=
 ⟨_,rfl,fun k hk=>(Below.heap_setCell _ _ _ k hk).trans ((Below.heap_setCell _ _ _ k hk).trans ((Below.heap_setCell _ _ _ k hk).trans (Below.heap_setCell _ _ _ k hk))),(ShTB.set_heap' (i:=4) u4 (ShTB.set_heap' (i:=3) u3 (ShTB.set_heap' (i:=2) u2 (ShTB.set_heap' (i:=1) u1 h)))).trans (by simp),fun B a hb hB=>((((hb.setCell (p:=⟨b,1,none⟩) hB u1).setCell (p:=⟨b,2,none⟩) hB u2).setCell (p:=⟨b,3,none⟩) hB u3).setCell (p:=⟨b,4,none⟩) hB u4)⟩
structure BlkS (W:World) (b:Nat) (L:List Ln) (ws:Ln) (reg:Int) (tv:Value) (w:World) (vi:Value) (rows:List Ir) (wr:World):Prop where
 rdr:Rdr W b L ws reg tv wr
 kept:Kept [b] w wr
 res:wr.heap[w.heap.size]?=some (.cells #[.slice none 0 0,.int .u8 0,.int .i64 0,.int .i64 0,.int .i64 0] 38 (0,0))
 box:wr.heap[w.heap.size+1]?=some (.cells #[vi,.int .u8 0,.int .i64 0,.int .i64 0,.int .i64 0] 38 (0,0))
 own:OwnIns w.heap.size wr vi rows
 nb:b < w.heap.size
 lo:W.heap.size≤w.heap.size
theorem ownIns_go {B:Nat} {v:Value} {r:List Ir} {wr w' : World} (h:OwnIns B wr v r) (hr:Rdr W b L ws reg tv wr) (hk:Kept [b] wr w'):OwnIns B w' v r:=h.other hk.grown (Rdr_typed hr) (by decide) (by decide)
theorem BlkS.go {vi:Value} {rows:List Ir} {wr w' : World} {ws' : Ln} {L' : List Ln} {reg' : Int} (h:BlkS W b L ws reg tv w vi rows wr) (hr:Rdr W b L' ws' reg' tv w') (hk:Kept [b] wr w'):BlkS W b L' ws' reg' tv w vi rows w' :=
 ⟨hr,h.kept.trans hk,hk.heap h.res (fun e=>by have:=List.mem_singleton.1 e;have:=h.nb;omega),hk.heap h.box (fun e=>by have:=List.mem_singleton.1 e;have:=h.nb;omega),ownIns_go h.own h.rdr hk,h.nb,h.lo⟩
theorem BlkS.on {vi:Value} {rows:List Ir} {wr w' : World} (h:BlkS W b L ws reg tv w vi rows wr) (hk:Below wr.heap.size wr w'):BlkS W b L ws reg tv w vi rows w':=h.go (h.rdr.on hk) (kept_below hk)
theorem BlkS.draw {vi:Value} {rows:List Ir} {wr:World} (h:BlkS W b L ws reg tv w vi rows wr):BlkS W b L ws reg tv w vi rows wr.drew:=h.on ((Below.refl _ wr).drew)
theorem BlkS.start (h:Rdr W b L ws reg tv w):BlkS W b L ws reg tv w (.slice none 0 0) [] ((w.alloc (.cells #[.slice none 0 0,.int .u8 0,.int .i64 0,.int .i64 0,.int .i64 0] 38)).alloc (.cells #[.slice none 0 0,.int .u8 0,.int .i64 0,.int .i64 0,.int .i64 0] 38)) :=
 ⟨(h.on (alloc_below _ _)).on (alloc_below _ _),((Kept.refl [b] w).alloc _).alloc _,alloc_old (alloc_new _ _) _,by
  have:=alloc_new (w.alloc (.cells #[.slice none 0 0,.int .u8 0,.int .i64 0,.int .i64 0,.int .i64 0] 38)) (.cells #[.slice none 0 0,.int .u8 0,.int .i64 0,.int .i64 0,.int .i64 0] 38)
  rwa [World.size_alloc] at this,⟨World.ownsRow_nil _ _ _ _,by simp⟩,h.lt,h.be.size⟩
theorem BlkS.grow {vi v5:Value} {rows:List Ir} {w4 w5:World} {y:Ir} (h:BlkS W b L ws reg tv w vi rows w4) (hy:OwnIr w.heap.size w4 y) (h5:w5.ownsRow w.heap.size 31 7 v5 (rows.length+1) (rowOf irV rows++rowOf irV [y])) (hg:w4.grownBy w5 vi.ownBlock) :
  w5.heap[w.heap.size+1]?=some (.cells #[vi,.int .u8 0,.int .i64 0,.int .i64 0,.int .i64 0] 38 (0,0))∧BlkS W b L ws reg tv w v5 (rows++[y]) (w5.setCell ⟨w.heap.size+1,0,none⟩ v5):=by
 obtain ⟨g1,g2,g3⟩:=ShTB.ins_step h.own hy h5 hg h.box
 have hr5:=Rdr_grown h.rdr h.own.1 h.lo (by decide) hg
 have hk5:=Kept_grown h.kept h.own.1 (Nat.le_refl _) hg
 have hs:Kept [w.heap.size+1] w5 (w5.setCell ⟨w.heap.size+1,0,none⟩ v5):=(Kept.refl _ w5).set (.inl (by simp)) v5
 have h1:=h.nb;have h2:=h.lo
 have hne:vi.ownBlock≠some w.heap.size:=fun e=>by
  obtain ⟨cs2,fr2,h3⟩:=own_typed h.own.1 _ e
  rw [h.res] at h3
  simp at h3
 have hres:w5.heap[w.heap.size]?=_:=(hg.block _ (Array.getElem?_eq_some_iff.1 h.res).1 (fun e=>hne e.symm)).trans h.res
 exact ⟨g2,⟨Rdr_one hr5 hs (by omega) (by omega),Kept_new hk5 hs (by omega),hs.heap hres (by simp),g3.trans (by simp),g1,h1,h2⟩⟩
def BlockO (W:World) (b:Nat) (L:List Ln) (reg:Int) (tv:Value) (o:Option (Bx × Nat)) (w:World) (e:Ending) (w' : World):Prop:=match o with
 | none=>Out b w e w'
 | some (x,n)=>∃ vi rows,e=.returned (bxV x vi)∧OwnIns w.heap.size w' vi rows∧rows.map Ir.x=x.ins∧Rdr W b (L.drop n) [] (reg+x.ins.length) tv w'∧Kept [b] w w'
theorem block_calls (h:Rdr W b L ws reg tv w) (htab:ShA.Tab W) (hto:TabO W) (hreg:0≤reg∧reg+L.length≤1000000000) :
  Calls Tryz.prog 153 #[.pointer (some ⟨b,0,none⟩)] w (BlockO W b L reg tv (blockP L reg) w):=by
 have HTAB:=hid htab
 have HTO:=hid hto
 have HREG:=hid hreg
 have HLL:=hid h.fl.1
 have HS0:=hid (BlkS.start h)
 have HO:=hid (Eq.refl (blockP L reg))
 obtain ⟨w2,hw2⟩:∃ X,X=(w.alloc (.cells #[.slice none 0 0,.int .u8 0,.int .i64 0,.int .i64 0,.int .i64 0] 38)).alloc (.cells #[.slice none 0 0,.int .u8 0,.int .i64 0,.int .i64 0,.int .i64 0] 38):=⟨_,rfl⟩
 have HW2:=hid hw2
 rw [← hw2] at HS0
 have HP0:Hid (blockP L reg=preB (([]:List Ir).map Ir.x) (blockP (L.drop 0) (reg+((0:Nat):Int)))):=by
  show _=_
  simp only [List.map_nil,preB_nil,List.drop_zero]
  rw [show reg+((0:Nat):Int)=reg by omega]
 generalize hoo:blockP L reg=oo at *
 clear h htab hto hreg hw2 hoo HO
 go_enter Tryz.func153,Tryz.ntmps153
 go_wp2_with fail
 rw [← HW2.out]
 clear HW2
 go_loopg [4,5] (L.length+1) (fun gk _ _ wr=>∃ (k:Nat) (ws2:Ln) (vi:Value) (rows:List Ir),k+gk=L.length+1∧rows.length=k∧oo=preB (rows.map Ir.x) (blockP (L.drop k) (reg+k))∧BlkS W b (L.drop k) ws2 (reg+k) tv w vi rows wr)
 case atStart=>exact ⟨0,ws,_,[],by omega,rfl,HP0.out,by rw [show reg+((0:Nat):Int)=reg by omega,List.drop_zero];exact HS0.out⟩
 case round =>
  obtain ⟨k,ws2,vi,rows,hk,hrl,hp,hs⟩:=hrel
  have HK:=hid hk
  have HRL:=hid hrl
  have HP:=hid hp
  have HS:=hid hs
  clear hk hrl hp HS0 HP0
  by_cases he:∃ l M,L.drop k=l :: M∧isEndB (w0 l)=true
  ·obtain ⟨l,M,hd,he⟩:=he
   rw [hd] at hs
   cases hx:endP l with
   | none =>
    have HC:=hid (end_no hs.rdr he hx)
    unfold Out at HC
    have HN:Hid (oo=none):=by show _=_;rw [HP.out,hd,blockP,if_pos he,hx];rfl
    clear hs hd he hx
    go_wp2_with fail
    refine HC.out.mono ?_
    rintro e w3 ⟨rfl,hk⟩
    have HK3:=hid (HS.out.kept.trans hk)
    clear hk HC
    go_wp2
    refine ⟨rfl,?_⟩
    show BlockO _ _ _ _ _ _ _ _ _
    rw [HN.out]
    exact ⟨rfl,HK3.out⟩
   | some x =>
    have HC:=hid (end_yes hs.rdr he hx)
    unfold EndO at HC
    have HN:Hid (oo=some (⟨rows.map Ir.x,x⟩,1+k)):=by
     show _=_
     rw [HP.out,hd,blockP,if_pos he,hx]
     simp [preB,HRL.out]
    have HDM:Hid (L.drop (1+k)=M):=by
     show List.drop _ _=_
     have:=List.drop_drop (i:=1) (j:=k) (l:=L)
     rw [hd] at this
     rw [Nat.add_comm]
     simpa using this.symm
    clear hd he hx
    go_wp2_with fail
    refine HC.out.mono ?_
    rintro e w3 ⟨rfl,hr,hk⟩
    have HS2:=hid (hs.go hr hk)
    clear hr hk HC hs
    obtain ⟨X3,hX3⟩:∃ X,X=w3.alloc (.cells #[.int .u8 x.kind,.int .i64 x.a,.int .i64 x.to,.int .i64 x.els] 35):=⟨_,rfl⟩
    have hk3:X3.heap[w3.heap.size]?=some (.cells #[.int .u8 x.kind,.int .i64 x.a,.int .i64 x.to,.int .i64 x.els] 35 (0,0)):=by rw [hX3];exact alloc_new _ _
    have hb3' : Below w3.heap.size w3 X3:=by rw [hX3];exact alloc_below _ _
    have HX3:=hid hX3
    have HS3:=hid (HS2.out.on hb3')
    have v0:=cells_of hk3 0 _ rfl;have v1:=cells_of hk3 1 _ rfl;have v2:=cells_of hk3 2 _ rfl;have v3:=cells_of hk3 3 _ rfl
    have hbx:=HS3.out.box
    have y0:=cells_of hbx 0 _ rfl;have y1:=cells_of hbx 1 _ rfl;have y2:=cells_of hbx 2 _ rfl;have y3:=cells_of hbx 3 _ rfl;have y4:=cells_of hbx 4 _ rfl
    have hz:=(ShTB.cells_heap hbx).2
    have z1:=hz 1;have z2:=hz 2;have z3:=hz 3;have z4:=hz 4
    obtain ⟨X4,hX4,hne4,hk4,hb4⟩:=set14_world X3 (w.heap.size+1) 38 vi (.int .u8 0) (.int .i64 0) (.int .i64 0) (.int .i64 0) (.int .u8 x.kind) (.int .i64 x.a) (.int .i64 x.to) (.int .i64 x.els) hbx
    have HX4:=hid hX4
    have hone4:=kept_one hne4 (hb4 0 X3 (Below.refl _ _) (Nat.zero_le _))
    have hres4:=(hne4 w.heap.size (by omega)).trans HS3.out.res
    have hr4:=Rdr_one HS3.out.rdr hone4 (by have:=HS3.out.lo;omega) (by have:=HS3.out.nb;omega)
    have hk4':=Kept_new HS3.out.kept hone4 (by omega)
    have ho4:=HS3.out.own.other hone4.grown (ShTB.typed_at hbx) (by decide) (by decide)
    have a0:=cells_of hk4 0 _ rfl;have a1:=cells_of hk4 1 _ rfl;have a2:=cells_of hk4 2 _ rfl;have a3:=cells_of hk4 3 _ rfl;have a4:=cells_of hk4 4 _ rfl
    have b0:=cells_of hres4 0 _ rfl;have b1:=cells_of hres4 1 _ rfl;have b2:=cells_of hres4 2 _ rfl;have b3:=cells_of hres4 3 _ rfl;have b4:=cells_of hres4 4 _ rfl
    have hq:=(ShTB.cells_heap hres4).2
    have q0:=hq 0;have q1:=hq 1;have q2:=hq 2;have q3:=hq 3;have q4:=hq 4
    obtain ⟨X5,hX5,hne5,hk5,hb5⟩:=set5_world X4 w.heap.size 38 (.slice none 0 0) (.int .u8 0) (.int .i64 0) (.int .i64 0) (.int .i64 0) vi (.int .u8 x.kind) (.int .i64 x.a) (.int .i64 x.to) (.int .i64 x.els) hres4
    have HX5:=hid hX5
    have hone5:=kept_one hne5 (hb5 0 X4 (Below.refl _ _) (Nat.zero_le _))
    have HR5:=hid (Rdr_one hr4 hone5 HS3.out.lo (by have:=HS3.out.nb;omega))
    have HK5:=hid (Kept_new hk4' hone5 (Nat.le_refl _))
    have HO5:=hid (ho4.other hone5.grown (ShTB.typed_at hres4) (by decide) (by decide))
    have x0:=cells_of hk5 0 _ rfl;have x1:=cells_of hk5 1 _ rfl;have x2:=cells_of hk5 2 _ rfl;have x3:=cells_of hk5 3 _ rfl;have x4:=cells_of hk5 4 _ rfl
    obtain ⟨i1,i2,hvi⟩:=own_form HS3.out.own.1
    subst hvi
    clear hX3 hk3 hb3' hbx hz hX4 hne4 hk4 hb4 hone4 hres4 hr4 hk4' ho4 hq hX5 hne5 hk5 hb5 hone5 HS2 HS3 HS
    go_upto_region 4 with fail
    rw [← HX3.out]
    go_upto_region 5 with fail
    rw [← HX4.out]
    clear y0 y1 y2 y3 y4 z1 z2 z3 z4 v0 v1 v2 v3
    go_wp2
    (try simp only [Exit.inBlock,Exit.then])
    rw [← HX5.out]
    refine bodyPost_ret (by simp [results,Tryz.results153,go_sem,x0,x1,x2,x3,x4];try rfl) rfl ?_
    show BlockO _ _ _ _ _ _ _ _ _
    rw [HN.out]
    refine ⟨_,rows,rfl,HO5.out,rfl,?_,HK5.out⟩
    rw [HDM.out]
    simp only [List.length_map]
    rw [HRL.out]
    exact HR5.out
  have hw:∀ l M,L.drop k=l :: M→isEndB (w0 l)=false:=fun l M hd=>by
   cases hx:isEndB (w0 l) with
   | false=>rfl
   | true=>exact absurd ⟨l,M,hd,hx⟩ he
  have HC:=hid (end_off hs.rdr hw)
  unfold EndO at HC
  have HW:=hid hw
  clear he hw
  go_wp2_with fail
  refine HC.out.mono ?_
  rintro e w3 ⟨rfl,hr,hk⟩
  have HS2:=hid (hs.go hr hk)
  clear hr hk HC hs
  obtain ⟨X3,hX3⟩:∃ X,X=w3.alloc (.cells #[.int .u8 0,.int .i64 0,.int .i64 0,.int .i64 0] 35):=⟨_,rfl⟩
  have hk3:X3.heap[w3.heap.size]?=some (.cells #[.int .u8 0,.int .i64 0,.int .i64 0,.int .i64 0] 35 (0,0)):=by rw [hX3];exact alloc_new _ _
  have hb3' : Below w3.heap.size w3 X3:=by rw [hX3];exact alloc_below _ _
  have HX3:=hid hX3
  have HS3:=hid (HS2.out.on hb3')
  clear hX3 hk3 hb3' HS2 HS
  obtain ⟨i1,i2,hvi⟩:=own_form HS3.out.own.1
  subst hvi
  have HD:=hid HS3.out.draw
  have HV0:Hid (X3.drew.cell? ⟨w.heap.size+1,0,none⟩=some (.slice i1 rows.length i2)):=cells_of HD.out.box 0 _ rfl
  cases hd:L.drop k with
  | nil =>
   have hrd:=HD.out.rdr
   rw [hd] at hrd
   have HC:=hid (ins_nil hrd)
   unfold Out at HC
   have HN:Hid (oo=none):=by show _=_;rw [HP.out,hd];rfl
   clear hrd hd
   go_upto_region 6 with fail
   rw [← HX3.out]
   refine wp_region_Z (S:=(fun w'=>w'.cell? ⟨w.heap.size+1,0,none⟩=some (.slice i1 rows.length i2))) (Z:=[7]) (by kernel_rfl) ?_ (fun hHeld=>?_)
   ·(try dsimp only)
    exact HV0.out
   refine zP 0 rfl ?_
   refine zT 1 rfl ?_
   refine zP 2 rfl ?_
   refine zC 3 rfl (fun K hK=>?_)
   go_simp
   (go_at_call 188)
   refine HC.out.mono ?_
   rintro e w9 ⟨rfl,hk⟩
   have HK9:=hid (HD.out.kept.trans hk)
   clear hk
   refine ⟨rfl,?_⟩
   show BlockO _ _ _ _ _ _ _ _ _
   rw [HN.out]
   exact ⟨rfl,HK9.out⟩
  | cons l M =>
   have he:=HW.out l M hd
   have hrd:=HD.out.rdr
   rw [hd] at hrd
   have HLT:Hid (k < L.length):=by
    show _ < _
    have:=congrArg List.length hd
    rw [List.length_drop] at this
    simp at this
    omega
   have HRG:Hid (-1000000000≤reg+(k:Int)∧reg+(k:Int)≤1000000000):=by
    have h1:=HREG.out
    have h2:=HLT.out
    show _∧_
    omega
   cases hy:insP l (reg+k) with
   | none =>
    have HC:=hid (ins_no hrd HTAB.out HTO.out hy)
    unfold Out at HC
    have HN:Hid (oo=none):=by show _=_;rw [HP.out,hd,blockP,if_neg (by rw [he];decide),hy];rfl
    clear hrd hd hy he
    go_upto_region 6 with fail
    rw [← HX3.out]
    refine wp_region_Z (S:=(fun w'=>w'.cell? ⟨w.heap.size+1,0,none⟩=some (.slice i1 rows.length i2))) (Z:=[7]) (by kernel_rfl) ?_ (fun hHeld=>?_)
    ·(try dsimp only)
     exact HV0.out
    refine zP 0 rfl ?_
    refine zT 1 rfl ?_
    refine zP 2 rfl ?_
    refine zC 3 rfl (fun K hK=>?_)
    go_simp
    (go_at_call 188)
    refine HC.out.mono ?_
    rintro e w9 ⟨rfl,hk⟩
    have HK9:=hid (HD.out.kept.trans hk)
    clear hk
    refine ⟨rfl,?_⟩
    show BlockO _ _ _ _ _ _ _ _ _
    rw [HN.out]
    exact ⟨rfl,HK9.out⟩
   | some y =>
    have HC:=hid (ins_yes hrd HTAB.out HTO.out HRG.out hy)
    unfold InsO at HC
    have HP2:Hid (oo=preB (rows.map Ir.x++[y]) (blockP M (reg+((k+1:Nat):Int)))):=by
     show _=_
     rw [HP.out,hd,block_step he hy,preB_pre]
     rw [show reg+(k:Int)+1=reg+((k+1:Nat):Int) by omega]
    have HDM:Hid (L.drop (k+1)=M):=by
     show List.drop _ _=_
     have:=List.drop_drop (i:=1) (j:=k) (l:=L)
     rw [hd] at this
     simpa [Nat.add_comm] using this.symm
    clear hrd hd hy he
    go_upto_region 6 with fail
    rw [← HX3.out]
    clear HX3
    refine wp_region_noPanic ?_
    refine wp_region_Z (S:=(fun w'=>w'.cell? ⟨w.heap.size+1,0,none⟩=some (.slice i1 rows.length i2))) (Z:=[7]) (by kernel_rfl) ?_ (fun hHeld=>?_)
    ·(try dsimp only)
     exact HV0.out
    refine zP 0 rfl ?_
    refine zT 1 rfl ?_
    refine zP 2 rfl ?_
    refine zC 3 rfl (fun K hK=>?_)
    go_simp
    (go_at_call 188;(with_reducible refine HC.out.mono ?_);rintro e w4 ⟨va,vf,rfl,hoy,hr1,hk1⟩;obtain ⟨ja,jc,rfl⟩:∃ a c,va=.slice a y.args.length c:=own_form hoy.1;obtain ⟨fa,fc,rfl⟩:∃ a c,vf=.slice a y.frm.length c:=own_form hoy.2;have HS4:=hid (HD.out.go hr1 hk1);have HOY:=hid (show OwnIr w.heap.size w4 _ from hoy.base HD.out.kept.size);have HV1:Hid (w4.cell? ⟨w.heap.size+1,0,none⟩=some (.slice i1 rows.length i2)):=cells_of HS4.out.box 0 _ rfl;clear hr1 hk1 hoy HC)
    refine hK.out _ _ ?_ (fun hHeld=>?_)
    ·(try dsimp only)
     exact HV1.out
    clear hK K
    refine zC 4 rfl (fun K hK=>?_)
    go_simp
    refine hK.out _ _ ?_ (fun hHeld=>?_)
    ·(try dsimp only)
     exact keep_below (alloc_below _ _) HV1.out
    clear hK K
    refine zC 5 rfl (fun K hK=>?_)
    rw [if_pos (by rfl)]
    have hb5:=alloc_below w4 (.cells #[.int .u8 y.op,.int .i64 y.typ,.int .i64 y.a,.int .i64 y.b,.int .i64 y.n,.slice ja y.args.length jc,.slice fa y.frm.length fc] 31)
    have HS5:=hid (HS4.out.on hb5)
    have HOY5:=hid (HOY.out.below hb5)
    have hsz:w.heap.size≤(w4.alloc (.cells #[.int .u8 y.op,.int .i64 y.typ,.int .i64 y.a,.int .i64 y.b,.int .i64 y.n,.slice ja y.args.length jc,.slice fa y.frm.length fc] 31)).heap.size:=HS5.out.kept.size
    refine wp_append_row irW (by decide) infoIns Tryz.underlying36 zeroIns (.tmp 16) (.tmp 19) rfl w.heap.size (.slice i1 rows.length i2) rfl rows.length (rowOf irV rows) HS5.out.own.1 w4.heap.size 0 1 1 [(⟨y,.slice ja y.args.length jc,.slice fa y.frm.length fc⟩:Ir)] rfl rfl (fun z hz=>by rw [List.mem_singleton.1 hz];exact oneIr _ ⟨_,_,_,rfl⟩ ⟨_,_,_,rfl⟩) (row_new _ _ _ _ irV rfl) (by have:=HRL.out;have:=HLT.out;have:=HLL.out;unfold maxLen;simp;omega) (by have:=HRL.out;have:=HLT.out;have:=HLL.out;simp;omega) hsz ?_
    intro v5 w5 hown5 hgr5
    obtain ⟨g1,g2⟩:=HS5.out.grow HOY5.out hown5 hgr5
    obtain ⟨p5,c5,h50⟩:=own_form hown5
    subst h50
    have HS6:=hid g2
    have HB6:=hid g1
    have HV2:Hid (w5.cell? ⟨w.heap.size+1,0,none⟩=some (.slice i1 rows.length i2)):=cells_of g1 0 _ rfl
    clear hown5 hgr5 g1 g2 hsz hb5
    refine hK.out _ _ ?_ (fun hHeld=>?_)
    ·(try dsimp only)
     exact HV2.out
    clear hK K
    refine zP 6 rfl ?_
    refine zL 7 rfl (fun K hK=>?_)
    have zz:=(ShTB.cells_heap HB6.out).2 0
    have yy:=HV2.out
    go_simp
    refine hK.out _ _ ?_
    clear hK K
    refine wpAnyZ_done (by kernel_rfl) ?_ _
    refine NoPanic.normal ?_
    clear HV0 HV1 HV2 HB6 HOY HOY5 HS4 HS5 HD HS3
    go_wp2
    go_roundg (gk - 1)
    case measure=>have:=HK.out;have:=HLT.out;omega
    case rel=>exact ⟨k+1,[],_,rows++[(⟨y,.slice ja y.args.length jc,.slice fa y.frm.length fc⟩:Ir)],by have:=HK.out;have:=HLT.out;omega,by have:=HRL.out;simp;omega,by rw [HP2.out,HDM.out,List.map_append];rfl,by rw [HDM.out,show reg+((k+1:Nat):Int)=reg+(k:Int)+1 by omega];exact HS6.out⟩
end Go.Proofs.YtpejpnffcepdlaaGreatDoor.RcR
namespace Go.Proofs.YtpejpnffcepdlaaGreatDoor.RcS
open Go.RowKit Go.Lib TyM TyP ShM ShP ShB IntO SetP LxM LxJ LxY RwO RdM RdN RdV RdB Aft RgZ RcP RcA RcB RcC RcD RcT RcO RcL RcQ RcR

variable {W:World} {b:Nat} {L:List Ln} {ws:Ln} {reg:Int} {tv:Value} {w:World}

theorem mk_range {x:ByteArray} {c:UInt8} (h:(mkN x c).2=0):0≤(mkN x c).1∧(mkN x c).1≤999:=by
 rw [RdN.mk_un] at h ⊢
 unfold RdN.mkL at h ⊢
 split at h
 ·cases h
 ·rename_i y t
  split at h
  ·rename_i hy
   simp only [hy,if_true] at h ⊢
   unfold NumG.sm at h ⊢
   rw [if_neg (by omega)] at h ⊢
   split at h
   ·rename_i hc
    rw [if_pos hc]
    exact hc.2
   ·cases h
  ·cases h
theorem mark_range {c:UInt8} {l:Ln} {n:Int} {l2:Ln} (h:markC c l=some (n,l2)):0≤n∧n≤999:=by
 cases l with
 | nil=>cases h
 | cons x l =>
  rw [markC_cons] at h
  split at h
  ·rename_i hx;cases h;exact mk_range hx
  ·cases h
def preF (bs:List Bx) (k:Nat) (o:Option (List Bx × Nat)):Option (List Bx × Nat):=o.map fun r=>(bs++r.1,k+r.2)
theorem preF_nil (o:Option (List Bx × Nat)):preF [] 0 o=o:=by
 cases o with
 | none=>rfl
 | some r=>simp [preF]
theorem preF_pre (bs cs:List Bx) (j k:Nat) (o:Option (List Bx × Nat)):preF bs j (preF cs k o)=preF (bs++cs) (j+k) o:=by
 cases o with
 | none=>rfl
 | some r =>
  unfold preF
  simp
  omega
theorem blocks_step {l:Ln} {M:List Ln} {q:Int} {x:Bx} {n:Nat} (hl:w0 l=[98,108,111,99,107]) (h1:l.length=1) (hx:blockP M q=some (x,n)):blocksP (l :: M) q=preF [x] (1+n) (blocksP (M.drop n) (q+x.ins.length)):=by
 rw [blocks_cons,if_pos hl,if_pos h1,hx]
 simp only
 cases blocksP (M.drop n) (q+x.ins.length) with
 | none=>rfl
 | some r=>rfl
theorem one_line {l:Ln} (h1:1≤l.length):(l.drop 1=[])↔l.length=1:=by
 rw [List.drop_eq_nil_iff]
 omega
structure FunS (W:World) (b:Nat) (L:List Ln) (ws:Ln) (reg:Int) (tv:Value) (w:World) (bx:Nat) (sig:Int) (vb:Value) (bs:List Br) (wr:World):Prop where
 rdr:Rdr W b L ws reg tv wr
 kept:Kept [b] w wr
 res:wr.heap[w.heap.size]?=some (.cells #[.int .i64 0,.slice none 0 0] 41 (0,0))
 box:wr.heap[bx]?=some (.cells #[.int .i64 sig,vb] 41 (0,0))
 own:OwnBlks w.heap.size wr vb bs
 nb:b < w.heap.size
 lo:W.heap.size≤w.heap.size
 lt:w.heap.size < bx
theorem ownBlks_go {B:Nat} {v:Value} {r:List Br} {wr w' : World} (h:OwnBlks B wr v r) (hr:Rdr W b L ws reg tv wr) (hk:Kept [b] wr w'):OwnBlks B w' v r:=h.other hk.grown (Rdr_typed hr) (by decide) (by decide) (by decide)
theorem FunS.go {bx:Nat} {sig:Int} {vb:Value} {bs:List Br} {wr w' : World} {ws' : Ln} {L' : List Ln} {reg' : Int} (h:FunS W b L ws reg tv w bx sig vb bs wr) (hr:Rdr W b L' ws' reg' tv w') (hk:Kept [b] wr w'):FunS W b L' ws' reg' tv w bx sig vb bs w' :=
 ⟨hr,h.kept.trans hk,hk.heap h.res (fun e=>by have:=List.mem_singleton.1 e;have:=h.nb;omega),hk.heap h.box (fun e=>by have:=List.mem_singleton.1 e;have:=h.nb;have:=h.lt;omega),ownBlks_go h.own h.rdr hk,h.nb,h.lo,h.lt⟩
theorem FunS.on {bx:Nat} {sig:Int} {vb:Value} {bs:List Br} {wr w' : World} (h:FunS W b L ws reg tv w bx sig vb bs wr) (hk:Below wr.heap.size wr w'):FunS W b L ws reg tv w bx sig vb bs w':=h.go (h.rdr.on hk) (kept_below hk)
theorem FunS.draw {bx:Nat} {sig:Int} {vb:Value} {bs:List Br} {wr:World} (h:FunS W b L ws reg tv w bx sig vb bs wr):FunS W b L ws reg tv w bx sig vb bs wr.drew:=h.on ((Below.refl _ wr).drew)
theorem FunS.regs {bx:Nat} {sig:Int} {vb:Value} {bs:List Br} {wr:World} (h:FunS W b L ws reg tv w bx sig vb bs wr) (q:Int):FunS W b L ws q tv w bx sig vb bs (wr.setCell ⟨b,2,none⟩ (.int .i64 q)):=h.go (h.rdr.regs q) ((Kept.refl [b] wr).set (.inl (by simp)) _)
theorem FunS.start {w1:World} {sig:Int} (h:Rdr W b L ws reg tv w1) (hb:b < w.heap.size) (hW:W.heap.size≤w.heap.size) (hk:Kept [b] (w.alloc (.cells #[.int .i64 0,.slice none 0 0] 41)) w1):FunS W b L ws reg tv w w1.heap.size sig (.slice none 0 0) [] (w1.alloc (.cells #[.int .i64 sig,.slice none 0 0] 41)):=by
 have hs:=hk.size
 rw [World.size_alloc] at hs
 exact ⟨h.on (alloc_below _ _),(((Kept.refl [b] w).alloc _).trans hk).alloc _,alloc_old (hk.heap (alloc_new _ _) (fun e=>by have:=List.mem_singleton.1 e;omega)) _,alloc_new _ _,⟨World.ownsRow_nil _ _ _ _,by simp⟩,hb,hW,by omega⟩
theorem FunS.grow {bx:Nat} {sig:Int} {vb v5:Value} {bs:List Br} {w4 w5:World} {y:Br} (h:FunS W b L ws reg tv w bx sig vb bs w4) (hy:OwnIns w.heap.size w4 y.vi y.rows) (h5:w5.ownsRow w.heap.size 38 5 v5 (bs.length+1) (rowOf brV bs++rowOf brV [y])) (hg:w4.grownBy w5 vb.ownBlock) :
  w5.heap[bx]?=some (.cells #[.int .i64 sig,vb] 41 (0,0))∧FunS W b L ws reg tv w bx sig v5 (bs++[y]) (w5.setCell ⟨bx,1,none⟩ v5):=by
 have g1:=ShTB.blks_step h.own hy h5 hg
 have hr5:=Rdr_grown h.rdr h.own.1 h.lo (by decide) hg
 have hk5:=Kept_grown h.kept h.own.1 (Nat.le_refl _) hg
 have hs:Kept [bx] w5 (w5.setCell ⟨bx,1,none⟩ v5):=(Kept.refl _ w5).set (.inl (by simp)) v5
 have h1:=h.nb;have h2:=h.lo;have h3:=h.lt
 have hne:∀ n cs,w4.heap[n]?=some (.cells cs 41 (0,0))→vb.ownBlock≠some n:=fun n cs hn e=>by
  obtain ⟨cs2,fr2,h3⟩:=own_typed h.own.1 _ e
  rw [hn] at h3
  simp at h3
 have hres:w5.heap[w.heap.size]?=_:=(hg.block _ (Array.getElem?_eq_some_iff.1 h.res).1 (fun e=>hne _ _ h.res e.symm)).trans h.res
 have hbox:w5.heap[bx]?=_:=(hg.block _ (Array.getElem?_eq_some_iff.1 h.box).1 (fun e=>hne _ _ h.box e.symm)).trans h.box
 exact ⟨hbox,⟨Rdr_one hr5 hs (by omega) (by omega),Kept_new hk5 hs (by omega),hs.heap hres (by simp;omega),(ShTB.set_heap' (i:=1) v5 hbox).trans (by simp),g1.other (ShTB.grown_set w5 bx 1 v5) (ShTB.typed_at hbox) (by decide) (by decide) (by decide),h1,h2,h3⟩⟩
def funcC (ts:List Ty) (ws:Ln) (L:List Ln):Option (Fx × Nat):=match markC 116 ws with
 | some (sig,[])=>funcP ts sig L
 | _=>none
def FuncO (W:World) (b:Nat) (L:List Ln) (tv:Value) (o:Option (Fx × Nat)) (w:World) (e:Ending) (w' : World):Prop:=match o with
 | none=>Out b w e w'
 | some (x,n)=>∃ vb bs reg ws',e=.returned (fxV x vb)∧OwnBlks w.heap.size w' vb bs∧bs.map Br.bx=x.blocks∧Rdr W b (L.drop n) ws' reg tv w'∧Kept [b] w w'
def FuncB (W:World) (b:Nat) (L:List Ln) (sig:Int) (tv:Value) (o:Option (List Bx × Nat)) (w:World) (e:Ending) (w' : World):Prop:=match o with
 | none=>Out b w e w'
 | some (bs2,n)=>∃ vb bs reg ws',e=.returned (fxV ⟨sig,bs2⟩ vb)∧OwnBlks w.heap.size w' vb bs∧bs.map Br.bx=bs2∧Rdr W b (L.drop n) ws' reg tv w'∧Kept [b] w w'
theorem funcB_O {sig:Int} {o:Option (List Bx × Nat)} {e:Ending} {w' : World} (h:FuncB W b L sig tv o w e w'):FuncO W b L tv (o.map fun r=>(⟨sig,r.1⟩,r.2)) w e w':=by
 cases o with
 | none=>exact h
 | some r=>exact h

theorem func_no1 (h:Rdr W b L ws reg tv w) (hm:markC 116 ws=none):Calls Tryz.prog 105 #[.pointer (some ⟨b,0,none⟩)] w (Out b w):=by
 have HC:=hid (mark_no (c:=116) (h.on (alloc_below w (.cells #[.int .i64 0,.slice none 0 0] 41))) hm)
 rw [show (((116:UInt8).toNat:Nat):Int)=116 from rfl] at HC
 unfold Out at HC
 clear h hm
 go_enter Tryz.func105,Tryz.ntmps105
 go_wp2_with fail
 refine HC.out.mono ?_
 rintro e w1 ⟨rfl,hk⟩
 have HK:=hid (((Kept.refl [b] w).alloc (.cells #[.int .i64 0,.slice none 0 0] 41)).trans hk)
 clear hk HC
 go_wp2
 exact ⟨rfl,rfl,HK.out⟩
theorem func_no2 {sig:Int} {m:Ln} (h:Rdr W b L ws reg tv w) (hm:markC 116 ws=some (sig,m)) (hne:m≠[]):Calls Tryz.prog 105 #[.pointer (some ⟨b,0,none⟩)] w (Out b w):=by
 have HNE:=hid hne
 clear hne
 have hlt:=h.lt
 have hWs:=h.be.size
 have HC:=hid (mark_yes (c:=116) (h.on (alloc_below w (.cells #[.int .i64 0,.slice none 0 0] 41))) hm)
 rw [show (((116:UInt8).toNat:Nat):Int)=116 from rfl] at HC
 unfold Goes at HC
 clear h hm
 go_enter Tryz.func105,Tryz.ntmps105
 go_wp2_with fail
 refine HC.out.mono ?_
 rintro e w1 ⟨rfl,hr,hk⟩
 have hi:=FunS.start (sig:=sig) hr hlt hWs hk
 obtain ⟨w2,hw2⟩:∃ X,X=w1.alloc (.cells #[.int .i64 sig,.slice none 0 0] 41):=⟨_,rfl⟩
 have HW2:=hid hw2
 rw [← hw2] at hi
 have HI0:=hid hi
 clear hi hr hk hw2 HC
 go_wp2_with fail
 rw [← HW2.out]
 clear HW2
 refine (over_no HI0.out.rdr HNE.out).mono ?_
 rintro e w3 ⟨rfl,hk⟩
 have HK:=hid (HI0.out.kept.trans hk)
 clear hk
 go_wp2
 exact ⟨rfl,rfl,HK.out⟩
theorem func_in {sig:Int} {ts:List Ty} (h:Rdr W b L ws reg tv w) (htab:ShA.Tab W) (hto:TabO W) (hts:∀ w2,Kept [b] w w2→TysAt w2 tv ts) (hpt:∀ t∈ts,t.parts.length≤20000) (hm:markC 116 ws=some (sig,[])) (hin:(sig.toNat < ts.length)):Calls Tryz.prog 105 #[.pointer (some ⟨b,0,none⟩)] w (FuncO W b L tv ((blocksP L (regOf ts sig)).map fun r=>(⟨sig,r.1⟩,r.2)) w):=by
 have HTAB:=hid htab
 have HTO:=hid hto
 have HTS:=hid hts
 have HLL:=hid h.fl.1
 obtain ⟨sn,rfl⟩:∃ n:Nat,sig=n:=⟨sig.toNat,by have:=mark_range hm;omega⟩
 have hin:sn < ts.length:=by simpa using hin
 have HIN:=hid hin
 have hrg:regOf ts (sn:Int)=((ts[sn].parts.length:Nat):Int):=by
  unfold regOf
  rw [Int.toNat_natCast]
  simp only [List.getElem?_eq_getElem hin]
  rfl
 have HREG:Hid (0≤((ts[sn].parts.length:Nat):Int)∧((ts[sn].parts.length:Nat):Int)≤20000):=by
  have:=hpt _ (List.getElem_mem hin)
  show _∧_
  omega
 rw [hrg]
 obtain ⟨oo,hoo⟩:∃ o,o=blocksP L ((ts[sn].parts.length:Nat):Int):=⟨_,rfl⟩
 have HOO:=hid hoo
 rw [← hoo]
 clear hoo
 refine Calls.mono (R:=FuncB W b L sn tv oo w) ?_ (fun e w' hh=>funcB_O hh)
 clear hrg hpt htab hto hts
 obtain ⟨sig,hsig⟩:∃ s:Int,s=(sn:Int):=⟨_,rfl⟩
 rw [← hsig] at hm ⊢
 have HSIG:=hid hsig
 clear hsig hin
 have hlt:=h.lt
 have hWs:=h.be.size
 have HC:=hid (mark_yes (c:=116) (h.on (alloc_below w (.cells #[.int .i64 0,.slice none 0 0] 41))) hm)
 rw [show (((116:UInt8).toNat:Nat):Int)=116 from rfl] at HC
 unfold Goes at HC
 clear h hm
 go_enter Tryz.func105,Tryz.ntmps105
 go_wp2_with fail
 refine HC.out.mono ?_
 rintro e w1 ⟨rfl,hr,hk⟩
 have hi:=FunS.start (sig:=sig) hr hlt hWs hk
 obtain ⟨w2,hw2⟩:∃ X,X=w1.alloc (.cells #[.int .i64 sig,.slice none 0 0] 41):=⟨_,rfl⟩
 have HW2:=hid hw2
 rw [← hw2] at hi
 have HI0:=hid hi
 clear hi hr hk hw2 HC
 go_wp2_with fail
 rw [← HW2.out]
 clear HW2
 refine (over_yes HI0.out.rdr).mono ?_
 rintro e w3 ⟨rfl,hr,hk⟩
 have hi:=HI0.out.go hr hk
 obtain ⟨_,_,_,_,_,_,c2,_,hfz,_⟩:=hi.rdr.facts
 have fz2:=hfz 2
 obtain ⟨X3,hX3⟩:∃ X,X=w3.setCell ⟨b,2,none⟩ (.int .i64 0):=⟨_,rfl⟩
 have HX3:=hid hX3
 have hi3:FunS W b L [] 0 tv w w1.heap.size sig (.slice none 0 0) [] X3:=by rw [hX3];exact hi.regs 0
 clear hi hr hk hX3 hfz HI0
 go_upto_region 4 with fail
 rw [← HX3.out]
 clear c2 fz2 HX3
 have htt:=HTS.out X3 hi3.kept
 obtain ⟨_,_,_,_,_,_,c2,c3,hfz,_⟩:=hi3.rdr.facts
 have fz2:=hfz 2
 have a0:=cells_of hi3.box 0 _ rfl
 rw [HSIG.out] at a0
 obtain ⟨ta,tc,htv⟩:=htt.slice
 rw [htv] at c3 htt
 have HI3:=hid hi3
 obtain ⟨tb,off,rfl,hltb,pv,d0,d1,d2,d3,hpp⟩:=htt.at sn HIN.out
 obtain ⟨pa,pc,hpv,_⟩:=ints_slice hpp
 subst hpv
 have hlt2:(sn:Int) < ts.length:=by have:=HIN.out;omega
 have hlt3:=HIN.out
 have HDI2:=hid (hi3.regs (ts[sn].parts.length:Nat)).draw
 clear hi3 htt hfz hpp d0 d1 d2
 clear htv
 generalize ts[sn].parts.length=pl at *
 generalize ts.length=tl at *
 go_region
 go_wp2_with fail
 go_region
 go_wp2_with fail
 clear c2 c3 fz2 a0 hlt2 hlt3 d3
 obtain ⟨X5,hX5⟩:∃ X,X=(X3.setCell ⟨b,2,none⟩ (.int .i64 (pl:Nat))).drew.drew:=⟨_,rfl⟩
 have HI5:=hid HDI2.out.draw
 rw [← hX5] at HI5 ⊢
 clear hX5 HDI2
 have HP0:Hid (oo=preF (([]:List Br).map Br.bx) 0 (blocksP (L.drop 0) ((pl:Nat):Int))):=by
  show _=_
  rw [HOO.out,List.map_nil,preF_nil,List.drop_zero]
 have HRG0:Hid (0≤((pl:Nat):Int)∧((pl:Nat):Int)+(L.drop 0).length≤1000000):=by
  have h1:=HREG.out
  have h2:=HLL.out
  show _∧_
  rw [List.drop_zero]
  omega
 go_loopg [] (L.length+1) (fun gk wr=>∃ (k:Nat) (ws2:Ln) (rk:Int) (vb:Value) (bs:List Br),k+gk=L.length+1∧k≤L.length∧bs.length≤k∧oo=preF (bs.map Br.bx) k (blocksP (L.drop k) rk)∧(0≤rk∧rk+(L.drop k).length≤1000000)∧FunS W b (L.drop k) ws2 rk tv w w1.heap.size sig vb bs wr)
 case atStart=>exact ⟨0,[],_,_,[],by omega,by omega,by simp,HP0.out,HRG0.out,by rw [List.drop_zero];exact HI5.out⟩
 case round =>
  obtain ⟨k,ws2,rk,vb,bs,hk,hkl,hbl,hp,hrg,hs⟩:=hrel
  have HK:=hid hk
  have HKL:=hid hkl
  have HBL:=hid hbl
  have HP:=hid hp
  have HRG:=hid hrg
  have HS:=hid hs
  clear hk hkl hbl hp hrg HP0 HRG0 HI5 HREG HOO
  by_cases he:∃ l M,L.drop k=l :: M∧w0 l=[98,108,111,99,107]
  rotate_left
  ·have hw:∀ l M,L.drop k=l :: M→w0 l≠un ⟨#[98,108,111,99,107]⟩:=fun l M hd hx=>he ⟨l,M,hd,hx⟩
   have HC:=hid (begins_off ⟨#[98,108,111,99,107]⟩ hs.rdr hw)
   unfold Goes at HC
   have HN:Hid (oo=some (bs.map Br.bx,k)):=by
    show _=_
    rw [HP.out]
    cases hd:L.drop k with
    | nil=>rw [blocks_nil];simp [preF]
    | cons l M=>rw [blocks_cons,if_neg (hw l M hd)];simp [preF]
   clear he hw hs
   go_wp2_with fail
   refine HC.out.mono ?_
   rintro e w3 ⟨rfl,hr,hk⟩
   have hi:=HS.out.go hr hk
   have hbx:=hi.box
   have hn:=hi.res
   have a0:=cells_of hbx 0 _ rfl;have a1:=cells_of hbx 1 _ rfl
   have b0:=cells_of hn 0 _ rfl;have b1:=cells_of hn 1 _ rfl
   have hq:=(ShTB.cells_heap hn).2
   have q0:=hq 0;have q1:=hq 1
   obtain ⟨X6,hX6,hne6,hk6,hb6⟩:=set2_world w3 w.heap.size 41 (.int .i64 0) (.slice none 0 0) (.int .i64 sig) vb hn
   have HX6:=hid hX6
   have hone:=kept_one hne6 (hb6 0 w3 (Below.refl _ _) (Nat.zero_le _))
   have HR6:=hid (Rdr_one hi.rdr hone hi.lo (by have:=hi.nb;omega))
   have HK6:=hid (Kept_new hi.kept hone (Nat.le_refl _))
   have HO6:=hid (hi.own.other hone.grown (ShTB.typed_at hn) (by decide) (by decide) (by decide))
   have x0:=cells_of hk6 0 _ rfl;have x1:=cells_of hk6 1 _ rfl
   obtain ⟨i1,i2,hvb⟩:∃ a c,vb=.slice a bs.length c:=own_form hi.own.1
   subst hvb
   clear hbx hn hq hX6 hne6 hk6 hb6 hone hr hk hi HC HS
   go_wp2
   (try simp only [Exit.inBlock,Exit.then])
   rw [← HX6.out]
   refine bodyPost_ret (by simp [results,Tryz.results105,go_sem,x0,x1];try rfl) rfl ?_
   show FuncB _ _ _ _ _ _ _ _ _
   rw [HN.out]
   exact ⟨_,bs,_,_,rfl,HO6.out,rfl,HR6.out,HK6.out⟩
  obtain ⟨l,M,hd,hw⟩:=he
  have hlM:l.length+0=l.length:=rfl
  rw [hd] at hs
  have h1:=hs.rdr.fl.head.1
  have HC:=hid (begins_on ⟨#[98,108,111,99,107]⟩ hs.rdr hw)
  unfold Goes at HC
  have HD0:=hid hd
  have HW0:=hid hw
  clear hlM
  go_wp2_with fail
  refine HC.out.mono ?_
  rintro e w3 ⟨rfl,hr,hk⟩
  have HI6:=hid (hs.go hr hk)
  clear hr hk HC hs HS hd hw
  by_cases hl1:l.length=1
  rotate_left
  ·have hne:l.drop 1≠[]:=fun e=>hl1 ((one_line h1).1 e)
   have HNE:=hid hne
   have HN:Hid (oo=none):=by show _=_;rw [HP.out,HD0.out,blocks_cons,if_pos HW0.out,if_neg hl1];rfl
   clear hne hl1 h1
   go_wp2_with fail
   refine (over_no HI6.out.rdr HNE.out).mono ?_
   rintro e w4 ⟨rfl,hk⟩
   have HK9:=hid (HI6.out.kept.trans hk)
   clear hk
   go_wp2
   refine ⟨rfl,?_⟩
   show FuncB _ _ _ _ _ _ _ _ _
   rw [HN.out]
   exact ⟨rfl,HK9.out⟩
  have HL1:=hid hl1
  have hrd6:=HI6.out.rdr
  rw [(one_line h1).2 hl1] at hrd6
  have HRD6:=hid hrd6
  clear hl1 h1 hrd6
  go_wp2_with fail
  refine (over_yes HRD6.out).mono ?_
  rintro e w4 ⟨rfl,hr,hk⟩
  have HI7:=hid (HI6.out.go hr hk)
  clear hr hk HRD6 HI6
  obtain ⟨i1,i2,hvb⟩:∃ a c,vb=.slice a bs.length c:=own_form HI7.out.own.1
  subst hvb
  have HDD:=hid HI7.out.draw
  have HV0:Hid (w4.drew.cell? ⟨w1.heap.size,1,none⟩=some (.slice i1 bs.length i2)):=cells_of HDD.out.box 1 _ rfl
  have HLM:Hid (k < L.length∧M.length+1=L.length - k):=by
   have:=congrArg List.length HD0.out
   rw [List.length_drop] at this
   simp only [List.length_cons] at this
   show _∧_
   have:=HKL.out
   omega
  have HRGM:Hid (0≤rk∧rk+M.length≤1000000000):=by
   have h1:=HRG.out
   have h2:=HLM.out
   rw [List.length_drop] at h1
   show _∧_
   omega
  have hbc:=block_calls HDD.out.rdr HTAB.out HTO.out HRGM.out
  cases hx:blockP M rk with
  | none =>
   rw [hx] at hbc
   have HC:Hid (Calls Tryz.prog 153 _ _ (Out b w4.drew)):=hbc
   unfold Out at HC
   have HN:Hid (oo=none):=by show _=_;rw [HP.out,HD0.out,blocks_cons,if_pos HW0.out,if_pos HL1.out,hx];rfl
   clear hbc hx
   go_upto_region 8 with fail
   refine wp_region_Z (S:=(fun w'=>w'.cell? ⟨w1.heap.size,1,none⟩=some (.slice i1 bs.length i2))) (Z:=[7]) (by kernel_rfl) ?_ (fun hHeld=>?_)
   ·(try dsimp only)
    exact HV0.out
   refine zP 0 rfl ?_
   refine zT 1 rfl ?_
   refine zP 2 rfl ?_
   refine zC 3 rfl (fun K hK=>?_)
   go_simp
   (go_at_call 153)
   refine HC.out.mono ?_
   rintro e w9 ⟨rfl,hk⟩
   have HK9:=hid (HDD.out.kept.trans hk)
   clear hk
   refine ⟨rfl,?_⟩
   show FuncB _ _ _ _ _ _ _ _ _
   rw [HN.out]
   exact ⟨rfl,HK9.out⟩
  | some xn =>
   obtain ⟨x,n⟩:=xn
   rw [hx] at hbc
   have HC:Hid (Calls Tryz.prog 153 _ _ (BlockO W b M rk tv (some (x,n)) w4.drew)):=hbc
   have HBLN:=hid (block_len hx)
   have HP2:Hid (oo=preF (bs.map Br.bx++[x]) (k+(1+n)) (blocksP (L.drop (k+(1+n))) (rk+x.ins.length))):=by
    show _=_
    rw [HP.out,HD0.out,blocks_step HW0.out HL1.out hx,preF_pre]
    congr 2
    have:=List.drop_drop (i:=1+n) (j:=k) (l:=L)
    rw [HD0.out] at this
    rw [← this,Nat.add_comm 1 n,List.drop_succ_cons]
   have HDM:Hid (L.drop (k+(1+n))=M.drop n):=by
    show List.drop _ _=_
    have:=List.drop_drop (i:=1+n) (j:=k) (l:=L)
    rw [HD0.out] at this
    rw [← this,Nat.add_comm 1 n,List.drop_succ_cons]
   clear hbc hx
   go_upto_region 8 with fail
   refine wp_region_noPanic ?_
   refine wp_region_Z (S:=(fun w'=>w'.cell? ⟨w1.heap.size,1,none⟩=some (.slice i1 bs.length i2))) (Z:=[7]) (by kernel_rfl) ?_ (fun hHeld=>?_)
   ·(try dsimp only)
    exact HV0.out
   refine zP 0 rfl ?_
   refine zT 1 rfl ?_
   refine zP 2 rfl ?_
   refine zC 3 rfl (fun K hK=>?_)
   go_simp
   (go_at_call 153;(with_reducible refine HC.out.mono ?_);rintro e w5 ⟨vi,rows,rfl,hoy,hrx,hr1,hk1⟩;obtain ⟨ja,jc,rfl⟩:∃ a c,vi=.slice a rows.length c:=own_form hoy.1;have HS4:=hid (HDD.out.go hr1 hk1);have HOY:=hid (show OwnIns w.heap.size w5 _ rows from hoy.base HDD.out.kept.size);have HRX:=hid hrx;have HV1:Hid (w5.cell? ⟨w1.heap.size,1,none⟩=some (.slice i1 bs.length i2)):=cells_of HS4.out.box 1 _ rfl;clear hr1 hk1 hoy hrx HC)
   refine hK.out _ _ ?_ (fun hHeld=>?_)
   ·(try dsimp only)
    exact HV1.out
   clear hK K
   refine zC 4 rfl (fun K hK=>?_)
   go_simp
   refine hK.out _ _ ?_ (fun hHeld=>?_)
   ·(try dsimp only)
    exact keep_below (alloc_below _ _) HV1.out
   clear hK K
   refine zC 5 rfl (fun K hK=>?_)
   rw [if_pos (by rfl)]
   have hb5:=alloc_below w5 (.cells #[.slice ja rows.length jc,.int .u8 x.en.kind,.int .i64 x.en.a,.int .i64 x.en.to,.int .i64 x.en.els] 38)
   have HS5:=hid (HS4.out.on hb5)
   have HOY5:=hid (HOY.out.below hb5)
   have hsz:w.heap.size≤(w5.alloc (.cells #[.slice ja rows.length jc,.int .u8 x.en.kind,.int .i64 x.en.a,.int .i64 x.en.to,.int .i64 x.en.els] 38)).heap.size:=HS5.out.kept.size
   refine wp_append_row brW (by decide) infoBlk Tryz.underlying39 zeroBlk (.tmp 40) (.tmp 43) rfl w.heap.size (.slice i1 bs.length i2) rfl bs.length (rowOf brV bs) HS5.out.own.1 w5.heap.size 0 1 1 [(⟨x.en,.slice ja rows.length jc,rows⟩:Br)] rfl rfl (fun z hz=>by rw [List.mem_singleton.1 hz];exact oneBr _ ⟨_,_,_,rfl⟩) (row_new _ _ _ _ brV rfl) (by have:=HBL.out;have:=HLM.out;have:=HLL.out;unfold maxLen;simp;omega) (by have:=HBL.out;have:=HLM.out;have:=HLL.out;simp;omega) hsz ?_
   intro v6 w6 hown6 hgr6
   obtain ⟨g1,g2⟩:=HS5.out.grow (y:=(⟨x.en,.slice ja rows.length jc,rows⟩:Br)) HOY5.out hown6 hgr6
   obtain ⟨p5,c5,h50⟩:=own_form hown6
   subst h50
   have HS6:=hid g2
   have HB6:=hid g1
   have HV2:Hid (w6.cell? ⟨w1.heap.size,1,none⟩=some (.slice i1 bs.length i2)):=cells_of g1 1 _ rfl
   clear hown6 hgr6 g1 g2 hsz hb5
   refine hK.out _ _ ?_ (fun hHeld=>?_)
   ·(try dsimp only)
    exact HV2.out
   clear hK K
   refine zP 6 rfl ?_
   refine zL 7 rfl (fun K hK=>?_)
   have zz:=(ShTB.cells_heap HB6.out).2 1
   have yy:=HV2.out
   go_simp
   refine hK.out _ _ ?_
   clear hK K
   refine wpAnyZ_done (by kernel_rfl) ?_ _
   refine NoPanic.normal ?_
   clear HV0 HV1 HV2 HB6 HOY HOY5 HS4 HS5 HDD HI7
   go_wp2
   go_roundg (gk - (1+n))
   case measure=>have:=HK.out;have:=HLM.out;have:=HBLN.out;omega
   case rel =>
    have hbx:(⟨rows.map Ir.x,x.en⟩:Bx)=x:=by rw [HRX.out]
    refine ⟨k+(1+n),[],_,_,bs++[(⟨x.en,.slice ja rows.length jc,rows⟩:Br)],by have:=HK.out;have:=HLM.out;have:=HBLN.out;omega,by have:=HLM.out;have:=HBLN.out;omega,by have:=HBL.out;simp;omega,?_,?_,by rw [HDM.out];exact HS6.out⟩
    ·rw [HP2.out,List.map_append]
     show _=preF (_++[(⟨rows.map Ir.x,x.en⟩:Bx)]) _ _
     rw [hbx]
    ·have h1:=HRG.out
     have h2:=HLM.out
     have h3:=HBLN.out
     rw [HDM.out,List.length_drop]
     rw [List.length_drop] at h1
     omega
theorem func_out {sig:Int} {ts:List Ty} (h:Rdr W b L ws reg tv w) (htab:ShA.Tab W) (hto:TabO W) (hts:∀ w2,Kept [b] w w2→TysAt w2 tv ts) (hm:markC 116 ws=some (sig,[])) (hin:¬ sig.toNat < ts.length):Calls Tryz.prog 105 #[.pointer (some ⟨b,0,none⟩)] w (FuncO W b L tv ((blocksP L (regOf ts sig)).map fun r=>(⟨sig,r.1⟩,r.2)) w):=by
 have HTAB:=hid htab
 have HTO:=hid hto
 have HTS:=hid hts
 have HLL:=hid h.fl.1
 obtain ⟨sn,rfl⟩:∃ n:Nat,sig=n:=⟨sig.toNat,by have:=mark_range hm;omega⟩
 have hin:¬ sn < ts.length:=by simpa using hin
 have HIN:=hid hin
 have hrg:regOf ts (sn:Int)=0:=by
  unfold regOf
  rw [Int.toNat_natCast]
  simp only [List.getElem?_eq_none (Nat.le_of_not_lt hin)]
 have HREG:Hid (0≤(0:Int)∧(0:Int)≤20000):=by
  show _∧_
  omega
 rw [hrg]
 obtain ⟨oo,hoo⟩:∃ o,o=blocksP L 0:=⟨_,rfl⟩
 have HOO:=hid hoo
 rw [← hoo]
 clear hoo
 refine Calls.mono (R:=FuncB W b L sn tv oo w) ?_ (fun e w' hh=>funcB_O hh)
 clear hrg htab hto hts
 obtain ⟨sig,hsig⟩:∃ s:Int,s=(sn:Int):=⟨_,rfl⟩
 rw [← hsig] at hm ⊢
 have HSIG:=hid hsig
 clear hsig hin
 have hlt:=h.lt
 have hWs:=h.be.size
 have HC:=hid (mark_yes (c:=116) (h.on (alloc_below w (.cells #[.int .i64 0,.slice none 0 0] 41))) hm)
 rw [show (((116:UInt8).toNat:Nat):Int)=116 from rfl] at HC
 unfold Goes at HC
 clear h hm
 go_enter Tryz.func105,Tryz.ntmps105
 go_wp2_with fail
 refine HC.out.mono ?_
 rintro e w1 ⟨rfl,hr,hk⟩
 have hi:=FunS.start (sig:=sig) hr hlt hWs hk
 obtain ⟨w2,hw2⟩:∃ X,X=w1.alloc (.cells #[.int .i64 sig,.slice none 0 0] 41):=⟨_,rfl⟩
 have HW2:=hid hw2
 rw [← hw2] at hi
 have HI0:=hid hi
 clear hi hr hk hw2 HC
 go_wp2_with fail
 rw [← HW2.out]
 clear HW2
 refine (over_yes HI0.out.rdr).mono ?_
 rintro e w3 ⟨rfl,hr,hk⟩
 have hi:=HI0.out.go hr hk
 obtain ⟨_,_,_,_,_,_,c2,_,hfz,_⟩:=hi.rdr.facts
 have fz2:=hfz 2
 obtain ⟨X3,hX3⟩:∃ X,X=w3.setCell ⟨b,2,none⟩ (.int .i64 0):=⟨_,rfl⟩
 have HX3:=hid hX3
 have hi3:FunS W b L [] 0 tv w w1.heap.size sig (.slice none 0 0) [] X3:=by rw [hX3];exact hi.regs 0
 clear hi hr hk hX3 hfz HI0
 go_upto_region 4 with fail
 rw [← HX3.out]
 clear c2 fz2 HX3
 have htt:=HTS.out X3 hi3.kept
 obtain ⟨_,_,_,_,_,_,c2,c3,hfz,_⟩:=hi3.rdr.facts
 have fz2:=hfz 2
 have a0:=cells_of hi3.box 0 _ rfl
 rw [HSIG.out] at a0
 obtain ⟨ta,tc,htv⟩:=htt.slice
 rw [htv] at c3 htt
 have HI3:=hid hi3
 have hlt2:¬ (sn:Int) < ts.length:=by have:=HIN.out;omega
 have HI5:=hid hi3.draw
 clear hi3 htt hfz htv
 generalize ts.length=tl at *
 go_region
 go_wp2_with fail
 clear c2 c3 fz2 a0 hlt2
 obtain ⟨X5,hX5⟩:∃ X,X=X3.drew:=⟨_,rfl⟩
 rw [← hX5] at HI5 ⊢
 clear hX5
 have HP0:Hid (oo=preF (([]:List Br).map Br.bx) 0 (blocksP (L.drop 0) (0:Int))):=by
  show _=_
  rw [HOO.out,List.map_nil,preF_nil,List.drop_zero]
 have HRG0:Hid (0≤(0:Int)∧(0:Int)+(L.drop 0).length≤1000000):=by
  have h1:=HREG.out
  have h2:=HLL.out
  show _∧_
  rw [List.drop_zero]
  omega
 go_loopg [] (L.length+1) (fun gk wr=>∃ (k:Nat) (ws2:Ln) (rk:Int) (vb:Value) (bs:List Br),k+gk=L.length+1∧k≤L.length∧bs.length≤k∧oo=preF (bs.map Br.bx) k (blocksP (L.drop k) rk)∧(0≤rk∧rk+(L.drop k).length≤1000000)∧FunS W b (L.drop k) ws2 rk tv w w1.heap.size sig vb bs wr)
 case atStart=>exact ⟨0,[],_,_,[],by omega,by omega,by simp,HP0.out,HRG0.out,by rw [List.drop_zero];exact HI5.out⟩
 case round =>
  obtain ⟨k,ws2,rk,vb,bs,hk,hkl,hbl,hp,hrg,hs⟩:=hrel
  have HK:=hid hk
  have HKL:=hid hkl
  have HBL:=hid hbl
  have HP:=hid hp
  have HRG:=hid hrg
  have HS:=hid hs
  clear hk hkl hbl hp hrg HP0 HRG0 HI5 HREG HOO
  by_cases he:∃ l M,L.drop k=l :: M∧w0 l=[98,108,111,99,107]
  rotate_left
  ·have hw:∀ l M,L.drop k=l :: M→w0 l≠un ⟨#[98,108,111,99,107]⟩:=fun l M hd hx=>he ⟨l,M,hd,hx⟩
   have HC:=hid (begins_off ⟨#[98,108,111,99,107]⟩ hs.rdr hw)
   unfold Goes at HC
   have HN:Hid (oo=some (bs.map Br.bx,k)):=by
    show _=_
    rw [HP.out]
    cases hd:L.drop k with
    | nil=>rw [blocks_nil];simp [preF]
    | cons l M=>rw [blocks_cons,if_neg (hw l M hd)];simp [preF]
   clear he hw hs
   go_wp2_with fail
   refine HC.out.mono ?_
   rintro e w3 ⟨rfl,hr,hk⟩
   have hi:=HS.out.go hr hk
   have hbx:=hi.box
   have hn:=hi.res
   have a0:=cells_of hbx 0 _ rfl;have a1:=cells_of hbx 1 _ rfl
   have b0:=cells_of hn 0 _ rfl;have b1:=cells_of hn 1 _ rfl
   have hq:=(ShTB.cells_heap hn).2
   have q0:=hq 0;have q1:=hq 1
   obtain ⟨X6,hX6,hne6,hk6,hb6⟩:=set2_world w3 w.heap.size 41 (.int .i64 0) (.slice none 0 0) (.int .i64 sig) vb hn
   have HX6:=hid hX6
   have hone:=kept_one hne6 (hb6 0 w3 (Below.refl _ _) (Nat.zero_le _))
   have HR6:=hid (Rdr_one hi.rdr hone hi.lo (by have:=hi.nb;omega))
   have HK6:=hid (Kept_new hi.kept hone (Nat.le_refl _))
   have HO6:=hid (hi.own.other hone.grown (ShTB.typed_at hn) (by decide) (by decide) (by decide))
   have x0:=cells_of hk6 0 _ rfl;have x1:=cells_of hk6 1 _ rfl
   obtain ⟨i1,i2,hvb⟩:∃ a c,vb=.slice a bs.length c:=own_form hi.own.1
   subst hvb
   clear hbx hn hq hX6 hne6 hk6 hb6 hone hr hk hi HC HS
   go_wp2
   (try simp only [Exit.inBlock,Exit.then])
   rw [← HX6.out]
   refine bodyPost_ret (by simp [results,Tryz.results105,go_sem,x0,x1];try rfl) rfl ?_
   show FuncB _ _ _ _ _ _ _ _ _
   rw [HN.out]
   exact ⟨_,bs,_,_,rfl,HO6.out,rfl,HR6.out,HK6.out⟩
  obtain ⟨l,M,hd,hw⟩:=he
  have hlM:l.length+0=l.length:=rfl
  rw [hd] at hs
  have h1:=hs.rdr.fl.head.1
  have HC:=hid (begins_on ⟨#[98,108,111,99,107]⟩ hs.rdr hw)
  unfold Goes at HC
  have HD0:=hid hd
  have HW0:=hid hw
  clear hlM
  go_wp2_with fail
  refine HC.out.mono ?_
  rintro e w3 ⟨rfl,hr,hk⟩
  have HI6:=hid (hs.go hr hk)
  clear hr hk HC hs HS hd hw
  by_cases hl1:l.length=1
  rotate_left
  ·have hne:l.drop 1≠[]:=fun e=>hl1 ((one_line h1).1 e)
   have HNE:=hid hne
   have HN:Hid (oo=none):=by show _=_;rw [HP.out,HD0.out,blocks_cons,if_pos HW0.out,if_neg hl1];rfl
   clear hne hl1 h1
   go_wp2_with fail
   refine (over_no HI6.out.rdr HNE.out).mono ?_
   rintro e w4 ⟨rfl,hk⟩
   have HK9:=hid (HI6.out.kept.trans hk)
   clear hk
   go_wp2
   refine ⟨rfl,?_⟩
   show FuncB _ _ _ _ _ _ _ _ _
   rw [HN.out]
   exact ⟨rfl,HK9.out⟩
  have HL1:=hid hl1
  have hrd6:=HI6.out.rdr
  rw [(one_line h1).2 hl1] at hrd6
  have HRD6:=hid hrd6
  clear hl1 h1 hrd6
  go_wp2_with fail
  refine (over_yes HRD6.out).mono ?_
  rintro e w4 ⟨rfl,hr,hk⟩
  have HI7:=hid (HI6.out.go hr hk)
  clear hr hk HRD6 HI6
  obtain ⟨i1,i2,hvb⟩:∃ a c,vb=.slice a bs.length c:=own_form HI7.out.own.1
  subst hvb
  have HDD:=hid HI7.out.draw
  have HV0:Hid (w4.drew.cell? ⟨w1.heap.size,1,none⟩=some (.slice i1 bs.length i2)):=cells_of HDD.out.box 1 _ rfl
  have HLM:Hid (k < L.length∧M.length+1=L.length - k):=by
   have:=congrArg List.length HD0.out
   rw [List.length_drop] at this
   simp only [List.length_cons] at this
   show _∧_
   have:=HKL.out
   omega
  have HRGM:Hid (0≤rk∧rk+M.length≤1000000000):=by
   have h1:=HRG.out
   have h2:=HLM.out
   rw [List.length_drop] at h1
   show _∧_
   omega
  have hbc:=block_calls HDD.out.rdr HTAB.out HTO.out HRGM.out
  cases hx:blockP M rk with
  | none =>
   rw [hx] at hbc
   have HC:Hid (Calls Tryz.prog 153 _ _ (Out b w4.drew)):=hbc
   unfold Out at HC
   have HN:Hid (oo=none):=by show _=_;rw [HP.out,HD0.out,blocks_cons,if_pos HW0.out,if_pos HL1.out,hx];rfl
   clear hbc hx
   go_upto_region 8 with fail
   refine wp_region_Z (S:=(fun w'=>w'.cell? ⟨w1.heap.size,1,none⟩=some (.slice i1 bs.length i2))) (Z:=[7]) (by kernel_rfl) ?_ (fun hHeld=>?_)
   ·(try dsimp only)
    exact HV0.out
   refine zP 0 rfl ?_
   refine zT 1 rfl ?_
   refine zP 2 rfl ?_
   refine zC 3 rfl (fun K hK=>?_)
   go_simp
   (go_at_call 153)
   refine HC.out.mono ?_
   rintro e w9 ⟨rfl,hk⟩
   have HK9:=hid (HDD.out.kept.trans hk)
   clear hk
   refine ⟨rfl,?_⟩
   show FuncB _ _ _ _ _ _ _ _ _
   rw [HN.out]
   exact ⟨rfl,HK9.out⟩
  | some xn =>
   obtain ⟨x,n⟩:=xn
   rw [hx] at hbc
   have HC:Hid (Calls Tryz.prog 153 _ _ (BlockO W b M rk tv (some (x,n)) w4.drew)):=hbc
   have HBLN:=hid (block_len hx)
   have HP2:Hid (oo=preF (bs.map Br.bx++[x]) (k+(1+n)) (blocksP (L.drop (k+(1+n))) (rk+x.ins.length))):=by
    show _=_
    rw [HP.out,HD0.out,blocks_step HW0.out HL1.out hx,preF_pre]
    congr 2
    have:=List.drop_drop (i:=1+n) (j:=k) (l:=L)
    rw [HD0.out] at this
    rw [← this,Nat.add_comm 1 n,List.drop_succ_cons]
   have HDM:Hid (L.drop (k+(1+n))=M.drop n):=by
    show List.drop _ _=_
    have:=List.drop_drop (i:=1+n) (j:=k) (l:=L)
    rw [HD0.out] at this
    rw [← this,Nat.add_comm 1 n,List.drop_succ_cons]
   clear hbc hx
   go_upto_region 8 with fail
   refine wp_region_noPanic ?_
   refine wp_region_Z (S:=(fun w'=>w'.cell? ⟨w1.heap.size,1,none⟩=some (.slice i1 bs.length i2))) (Z:=[7]) (by kernel_rfl) ?_ (fun hHeld=>?_)
   ·(try dsimp only)
    exact HV0.out
   refine zP 0 rfl ?_
   refine zT 1 rfl ?_
   refine zP 2 rfl ?_
   refine zC 3 rfl (fun K hK=>?_)
   go_simp
   (go_at_call 153;(with_reducible refine HC.out.mono ?_);rintro e w5 ⟨vi,rows,rfl,hoy,hrx,hr1,hk1⟩;obtain ⟨ja,jc,rfl⟩:∃ a c,vi=.slice a rows.length c:=own_form hoy.1;have HS4:=hid (HDD.out.go hr1 hk1);have HOY:=hid (show OwnIns w.heap.size w5 _ rows from hoy.base HDD.out.kept.size);have HRX:=hid hrx;have HV1:Hid (w5.cell? ⟨w1.heap.size,1,none⟩=some (.slice i1 bs.length i2)):=cells_of HS4.out.box 1 _ rfl;clear hr1 hk1 hoy hrx HC)
   refine hK.out _ _ ?_ (fun hHeld=>?_)
   ·(try dsimp only)
    exact HV1.out
   clear hK K
   refine zC 4 rfl (fun K hK=>?_)
   go_simp
   refine hK.out _ _ ?_ (fun hHeld=>?_)
   ·(try dsimp only)
    exact keep_below (alloc_below _ _) HV1.out
   clear hK K
   refine zC 5 rfl (fun K hK=>?_)
   rw [if_pos (by rfl)]
   have hb5:=alloc_below w5 (.cells #[.slice ja rows.length jc,.int .u8 x.en.kind,.int .i64 x.en.a,.int .i64 x.en.to,.int .i64 x.en.els] 38)
   have HS5:=hid (HS4.out.on hb5)
   have HOY5:=hid (HOY.out.below hb5)
   have hsz:w.heap.size≤(w5.alloc (.cells #[.slice ja rows.length jc,.int .u8 x.en.kind,.int .i64 x.en.a,.int .i64 x.en.to,.int .i64 x.en.els] 38)).heap.size:=HS5.out.kept.size
   refine wp_append_row brW (by decide) infoBlk Tryz.underlying39 zeroBlk (.tmp 40) (.tmp 43) rfl w.heap.size (.slice i1 bs.length i2) rfl bs.length (rowOf brV bs) HS5.out.own.1 w5.heap.size 0 1 1 [(⟨x.en,.slice ja rows.length jc,rows⟩:Br)] rfl rfl (fun z hz=>by rw [List.mem_singleton.1 hz];exact oneBr _ ⟨_,_,_,rfl⟩) (row_new _ _ _ _ brV rfl) (by have:=HBL.out;have:=HLM.out;have:=HLL.out;unfold maxLen;simp;omega) (by have:=HBL.out;have:=HLM.out;have:=HLL.out;simp;omega) hsz ?_
   intro v6 w6 hown6 hgr6
   obtain ⟨g1,g2⟩:=HS5.out.grow (y:=(⟨x.en,.slice ja rows.length jc,rows⟩:Br)) HOY5.out hown6 hgr6
   obtain ⟨p5,c5,h50⟩:=own_form hown6
   subst h50
   have HS6:=hid g2
   have HB6:=hid g1
   have HV2:Hid (w6.cell? ⟨w1.heap.size,1,none⟩=some (.slice i1 bs.length i2)):=cells_of g1 1 _ rfl
   clear hown6 hgr6 g1 g2 hsz hb5
   refine hK.out _ _ ?_ (fun hHeld=>?_)
   ·(try dsimp only)
    exact HV2.out
   clear hK K
   refine zP 6 rfl ?_
   refine zL 7 rfl (fun K hK=>?_)
   have zz:=(ShTB.cells_heap HB6.out).2 1
   have yy:=HV2.out
   go_simp
   refine hK.out _ _ ?_
   clear hK K
   refine wpAnyZ_done (by kernel_rfl) ?_ _
   refine NoPanic.normal ?_
   clear HV0 HV1 HV2 HB6 HOY HOY5 HS4 HS5 HDD HI7
   go_wp2
   go_roundg (gk - (1+n))
   case measure=>have:=HK.out;have:=HLM.out;have:=HBLN.out;omega
   case rel =>
    have hbx:(⟨rows.map Ir.x,x.en⟩:Bx)=x:=by rw [HRX.out]
    refine ⟨k+(1+n),[],_,_,bs++[(⟨x.en,.slice ja rows.length jc,rows⟩:Br)],by have:=HK.out;have:=HLM.out;have:=HBLN.out;omega,by have:=HLM.out;have:=HBLN.out;omega,by have:=HBL.out;simp;omega,?_,?_,by rw [HDM.out];exact HS6.out⟩
    ·rw [HP2.out,List.map_append]
     show _=preF (_++[(⟨rows.map Ir.x,x.en⟩:Bx)]) _ _
     rw [hbx]
    ·have h1:=HRG.out
     have h2:=HLM.out
     have h3:=HBLN.out
     rw [HDM.out,List.length_drop]
     rw [List.length_drop] at h1
     omega
theorem func_calls {ts:List Ty} (h:Rdr W b L ws reg tv w) (htab:ShA.Tab W) (hto:TabO W) (hts:∀ w2,Kept [b] w w2→TysAt w2 tv ts) (hpt:∀ t∈ts,t.parts.length≤20000) :
  Calls Tryz.prog 105 #[.pointer (some ⟨b,0,none⟩)] w (FuncO W b L tv (funcC ts ws L) w):=by
 unfold funcC
 cases hm:markC 116 ws with
 | none=>exact func_no1 h hm
 | some q =>
  obtain ⟨sig,m⟩:=q
  cases m with
  | cons x m=>exact func_no2 h hm (by simp)
  | nil =>
   by_cases hin:sig.toNat < ts.length
   ·exact func_in h htab hto hts hpt hm hin
   ·exact func_out h htab hto hts hm hin
end Go.Proofs.YtpejpnffcepdlaaGreatDoor.RcS
namespace Go.Proofs.YtpejpnffcepdlaaGreatDoor.RcV
open Go.RowKit Go.Lib TyM TyP ShM ShP ShB IntO SetP LxM LxJ LxY RwO RdM RdN RdV RdB RdK Aft RgZ RcP RcA RcB RcC RcD RcT
open TyW (Row rowVals rowVals_length)

variable {W:World} {b:Nat} {L:List Ln} {ws:Ln} {reg:Int} {tv:Value} {w:World}

theorem parts_keep {B:Nat} {w w' : World} {v:Value} {l:List Int} (h:PartsAt B w v l) (hg:∀ (g:Nat) (cs:Array Value) (fr:Nat × Nat),w.heap[g]?=some (.cells cs 3 fr)→w'.heap[g]?=w.heap[g]?):PartsAt B w' v l:=by
 obtain ⟨⟨ao,cap,rfl,hl,hm,hz,hc⟩,h2⟩:=h
 refine ⟨⟨ao,cap,rfl,hl,fun h0=>?_,hz,hc⟩,fun g hgg=>?_⟩
 ·obtain ⟨k,off,rfl,hlt,hx⟩:=hm h0
  obtain ⟨_,cs,fr,h3⟩:=h2 k rfl
  have he:=hg k cs fr h3
  exact ⟨k,off,rfl,(Array.getElem?_eq_some_iff.1 (he.trans h3)).1,fun i hi=>(World.cell?_of_block he).trans (hx i hi)⟩
 ·obtain ⟨h3,cs,fr,h4⟩:=h2 g hgg
  exact ⟨h3,cs,fr,(hg g cs fr h4).trans h4⟩
def TyOwn (B:Nat) (w:World) (v:Value) (r:List Row):Prop:=w.ownsRow B 43 4 v r.length (rowVals r)∧∀ x∈r,PartsAt B w x.2 x.1.parts
theorem TyOwn.go {B:Nat} {v:Value} {r:List Row} {wr w' : World} (h:TyOwn B wr v r) (hr:Rdr W b L ws reg tv wr) (hk:Kept [b] wr w'):TyOwn B w' v r :=
 ⟨owns_go hr h.1 (by decide) hk,fun x hx=>parts_keep (h.2 x hx) fun g cs fr hg=>hk.block g (Array.getElem?_eq_some_iff.1 hg).1 fun e=>by
  obtain ⟨cs2,fr2,h3⟩:=Rdr_typed hr g (by rw [List.mem_singleton.1 e])
  rw [hg] at h3
  simp at h3⟩
theorem TyOwn.on {B:Nat} {v:Value} {r:List Row} {wr w' : World} (h:TyOwn B wr v r) (hk:Below wr.heap.size wr w'):TyOwn B w' v r:=⟨ownsRow_below h.1 hk,fun x hx=>(h.2 x hx).below hk⟩
theorem TyOwn.other {B:Nat} {v:Value} {r:List Row} {wr w' : World} {f:TypeId} {row:Option Nat} (h:TyOwn B wr v r) (hg:wr.grownBy w' row) (hr:∀ g,row=some g→∃ cs fr,wr.heap[g]?=some (.cells cs f fr)) (h1:3≠f) (h2:43≠f):TyOwn B w' v r :=
 ⟨owns_other h.1 hg hr h2,fun x hx=>parts_keep (h.2 x hx) fun g cs fr hgg=>hg.block g (Array.getElem?_eq_some_iff.1 hgg).1 fun e=>by
  obtain ⟨cs2,fr2,h3⟩:=hr g e.symm
  rw [hgg] at h3
  simp at h3
  exact h1 h3.2.1⟩
theorem TyOwn.tys {B:Nat} {v:Value} {r:List Row} {w:World} (h:TyOwn B w v r) (hr:r.length≤100000):TysAt w v (r.map Prod.fst):=by
 by_cases h0:0 < r.length
 ·obtain ⟨g,cap,rfl,hg,hlt,hn,hc⟩:=TyW.row_cells h.1 (by rw [rowVals_length];omega)
  refine ⟨some ⟨g,0,none⟩,cap,by simp,by simp;omega,fun _=>⟨g,0,rfl,hlt,fun i hi=>?_⟩,(fun e=>by cases e),by simpa using hn⟩
  have hi' : i < r.length:=by simpa using hi
  obtain ⟨e0,e1,e2,e3⟩:=TyW.rowVals_at r i hi'
  rw [List.getElem_map]
  rw [Nat.zero_add]
  exact ⟨r[i].2,hc _ _ e0,hc _ _ e1,hc _ _ e2,hc _ _ e3,(h.2 _ (List.getElem_mem hi')).1⟩
 ·obtain rfl:r=[]:=List.eq_nil_of_length_eq_zero (by omega)
  rcases h.1.2 with ⟨rfl,_⟩ | ⟨g,cap,cur,rfl,hg,hb,hn,hm,hs,ht⟩
  ·exact ⟨none,0,rfl,by simp,(fun h=>by simp at h),(fun _=>rfl),by simp⟩
  ·exact ⟨some ⟨g,0,none⟩,cap,rfl,by simp,(fun h=>by simp at h),(fun e=>by cases e),by simp⟩
def tyRow (x:Row):List Value:=[.int .u8 x.1.kind,.int .i64 x.1.elem,.int .i64 x.1.many,x.2]
theorem tyW:Wide tyRow 4:=fun _=>rfl
theorem rowVals_of (r:List Row):rowVals r=rowOf tyRow r:=rfl
theorem TyOwn.grow {B:Nat} {v v5:Value} {r:List Row} {w4 w5:World} {y:Row} (h:TyOwn B w4 v r) (hy:PartsAt B w4 y.2 y.1.parts) (h5:w5.ownsRow B 43 4 v5 (r.length+1) (rowOf tyRow r++rowOf tyRow [y])) (hg:w4.grownBy w5 v.ownBlock):TyOwn B w5 v5 (r++[y]):=by
 have hkeep:∀ (g:Nat) (cs:Array Value) (fr:Nat × Nat),w4.heap[g]?=some (.cells cs 3 fr)→w5.heap[g]?=w4.heap[g]?:=fun g cs fr hgg=>hg.block g (Array.getElem?_eq_some_iff.1 hgg).1 fun e=>by
  obtain ⟨cs2,fr2,h3⟩:=own_typed h.1 g e.symm
  rw [hgg] at h3
  simp at h3
 refine ⟨?_,fun x hx=>?_⟩
 ·rw [List.length_append,rowVals_of,rowOf_append];exact h5
 ·rcases List.mem_append.1 hx with hx | hx
  ·exact parts_keep (h.2 x hx) hkeep
  ·rw [List.mem_singleton.1 hx];exact parts_keep hy hkeep

/-! the deferred closure -/
theorem catch_out (p:Addr) (x:Int) (w:World) (hc:w.cell? p=some (.int .i64 x)) (hz:w.frozen? p=false) :
  CallsD Tryz.prog 101 #[.pointer (some p)] (.panicking CH) w fun e u' w' =>
   e=.returned (.tuple #[])∧u'=.panicking [{ v:=.iface 23 (.int .i64 70),recovered:=true }]∧w'=w.setCell p (.int .i64 70):=by
 unfold CH
 refine callsD_of_wpS Tryz.func101 rfl fun c₀ cs hu=>?_
 apply wpS_seq
 apply wpS_region
 simp [wpOpsS,go_sem,recoverD,hu,Tryz.ntmps101,Exit.thenS]
 refine wpS_cond (t:=true) (by simp [Act.eval,Array.replicate]) ?_
 simp only [if_true]
 apply wpS_region
 simp [wpOpsS,go_sem,hc,hz,bodyPostS,results,Tryz.results101]
theorem catch_idle (p:Addr) (w:World) :
  CallsD Tryz.prog 101 #[.pointer (some p)] .returning w fun e u' w'=>e=.returned (.tuple #[])∧u'=.returning∧w'=w:=by
 refine callsD_of_wpS Tryz.func101 rfl fun c₀ cs hu=>?_
 apply wpS_seq
 apply wpS_region
 simp [wpOpsS,go_sem,recoverD,hu,Tryz.ntmps101,Exit.thenS]
 refine wpS_cond (t:=false) (by simp [Act.eval,Array.replicate]) ?_
 simp only [Bool.false_eq_true,if_false]
 refine wpS_of_wp (wp_skip ?_)
 cases c₀
 simp_all [bodyPostS,results,Tryz.results101]
end Go.Proofs.YtpejpnffcepdlaaGreatDoor.RcV
namespace Go.Proofs.YtpejpnffcepdlaaGreatDoor.RcW
open Go.RowKit Go.Lib TyM TyP ShM ShP ShB IntO SetP LxM LxJ LxY RwO RdM RdN RdV RdB RdK Aft RgZ RcP RcA RcB RcC RcD RcT RcO RcR RcS RcV
open TyW (Row rowVals rowVals_length)
open LxP (LinesAt StrsAt)

variable {b:Nat} {L:List Ln} {ws:Ln} {reg:Int} {tv:Value} {w:World}

def preT (ts:List Ty) (o:Option (List Ty × List Ln)):Option (List Ty × List Ln):=o.map fun r=>(ts++r.1,r.2)
theorem preT_nil (o:Option (List Ty × List Ln)):preT [] o=o:=by cases o<;>rfl
theorem preT_pre (ts us:List Ty) (o:Option (List Ty × List Ln)):preT ts (preT us o)=preT (ts++us) o:=by
 cases o with
 | none=>rfl
 | some r=>simp [preT]
theorem types_step {l:Ln} {M:List Ln} {t:Ty} (hl:w0 l=[116,121,112,101]) (ht:kindP (l.drop 1)=some t):typesP (l :: M)=preT [t] (typesP M):=by
 rw [typesP,if_pos hl,ht]
 rfl
theorem types_off {M:List Ln} (hl:∀ l N,M=l :: N→w0 l≠[116,121,112,101]):typesP M=some ([],M):=by
 cases M with
 | nil=>rfl
 | cons l N=>rw [typesP,if_neg (hl l N rfl)]
def preG (fs:List Fx) (o:Option (List Fx)):Option (List Fx):=o.map fun r=>fs++r
theorem preG_nil (o:Option (List Fx)):preG [] o=o:=by cases o<;>rfl
theorem preG_pre (fs gs:List Fx) (o:Option (List Fx)):preG fs (preG gs o)=preG (fs++gs) o:=by
 cases o with
 | none=>rfl
 | some r=>simp [preG]
theorem funcs_step (ts:List Ty) {l:Ln} (N:List Ln) (hl:w0 l=[102,117,110,99]):funcsP ts (l :: N)=match funcC ts (l.drop 1) N with
  | none=>none
  | some (f,n)=>preG [f] (funcsP ts (N.drop n)):=by
 rw [funcs_cons]
 unfold funcC
 match l,hl with
 | [],hl=>cases hl
 | [x],hl=>simp [markC_nil]
 | [x,y],hl =>
  rw [if_pos ⟨rfl,hl⟩]
  simp only [List.drop_succ_cons,List.drop_zero,List.getD_cons_succ,List.getD_cons_zero,markC_cons]
  by_cases hy:(mkN y 116).2=0
  ·simp only [hy,if_true]
   cases funcP ts (mkN y 116).1 N with
   | none=>rfl
   | some r=>rfl
  ·simp only [hy,if_false]
 | x :: y :: z :: m,hl =>
  rw [if_neg (by simp)]
  simp only [List.drop_succ_cons,List.drop_zero,markC_cons]
  by_cases hy:(mkN y 116).2=0<;>simp [hy]
theorem fns_more {B:Nat} {w4 w5:World} {v0 v5:Value} {r:List Fr} {y:Fr} (ho:OwnFns B w4 v0 r) (hy:OwnBlks B w4 y.vb y.blocks) (h5:w5.ownsRow B 41 2 v5 (r.length+1) (rowOf frV r++rowOf frV [y])) (hgr:w4.grownBy w5 v0.ownBlock):OwnFns B w5 v5 (r++[y]):=by
 refine ⟨?_,fun z hz=>?_⟩
 ·rw [List.length_append,rowOf_append];exact h5
 ·rcases List.mem_append.1 hz with hz | hz
  ·exact (ho.2 z hz).other hgr (own_typed ho.1) (by decide) (by decide) (by decide)
  ·rw [List.mem_singleton.1 hz]
   exact hy.other hgr (own_typed ho.1) (by decide) (by decide) (by decide)
theorem ownFns_other {B:Nat} {w w' : World} {v:Value} {r:List Fr} {f:TypeId} {row:Option Nat} (h:OwnFns B w v r) (hg:w.grownBy w' row) (hr:∀ g,row=some g→∃ cs fr,w.heap[g]?=some (.cells cs f fr)) (h1:3≠f) (h2:31≠f) (h3:38≠f) (h4:41≠f):OwnFns B w' v r :=
 ⟨owns_other h.1 hg hr h4,fun y hy=>(h.2 y hy).other hg hr h1 h2 h3⟩
theorem infoTy:(Tryz.prog.info? 43).map (fun i=>(i.zero,i.size,i.bytes))=some (some (.agg #[.int .u8 0,.int .i64 0,.int .i64 0,.slice none 0 0]),4,48):=by kernel_rfl
theorem zeroTy:(Value.agg #[.int .u8 0,.int .i64 0,.int .i64 0,.slice none 0 0]).cells.size=4:=by kernel_rfl
theorem oneTy (y:Row) (ha:∃ a n c,y.2=.slice a n c):∀ u∈tyRow y,u.oneCell'=true:=by
 obtain ⟨a,n,c,he⟩:=ha
 unfold tyRow
 rw [he]
 simp [Value.oneCell']

theorem ownsRow_up {w w2:World} {B size n:Nat} {e:TypeId} {v:Value} {xs:List Value} (h:w.ownsRow B e size v n xs) (hk:∀ k,B≤k→k < w.heap.size→w2.heap[k]?=w.heap[k]?):w2.ownsRow B e size v n xs:=by
 obtain ⟨h1,h2⟩:=h
 refine ⟨h1,?_⟩
 rcases h2 with h2 | ⟨g,cap,cur,hv,hg,hh,r⟩
 ·exact .inl h2
 ·exact .inr ⟨g,cap,cur,hv,hg,(hk g hg (Array.getElem?_eq_some_iff.1 hh).1).trans hh,r⟩
theorem parts_up {B:Nat} {w w2:World} {v:Value} {l:List Int} (h:PartsAt B w v l) (hk:∀ k,B≤k→k < w.heap.size→w2.heap[k]?=w.heap[k]?):PartsAt B w2 v l:=by
 obtain ⟨⟨ao,cap,rfl,hl,hm,hz,hc⟩,h2⟩:=h
 refine ⟨⟨ao,cap,rfl,hl,fun h0=>?_,hz,hc⟩,fun g hgg=>?_⟩
 ·obtain ⟨k,off,rfl,hlt,hx⟩:=hm h0
  obtain ⟨h4,cs,fr,h3⟩:=h2 k rfl
  have he:=hk k h4 hlt
  exact ⟨k,off,rfl,(Array.getElem?_eq_some_iff.1 (he.trans h3)).1,fun i hi=>(World.cell?_of_block he).trans (hx i hi)⟩
 ·obtain ⟨h3,cs,fr,h4⟩:=h2 g hgg
  exact ⟨h3,cs,fr,(hk g h3 (Array.getElem?_eq_some_iff.1 h4).1).trans h4⟩
theorem tyOwn_up {B:Nat} {w w2:World} {v:Value} {r:List Row} (h:TyOwn B w v r) (hk:∀ k,B≤k→k < w.heap.size→w2.heap[k]?=w.heap[k]?):TyOwn B w2 v r:=⟨ownsRow_up h.1 hk,fun x hx=>parts_up (h.2 x hx) hk⟩
theorem ownFns_up {B:Nat} {w w2:World} {v:Value} {r:List Fr} (h:OwnFns B w v r) (hk:∀ k,B≤k→k < w.heap.size→w2.heap[k]?=w.heap[k]?):OwnFns B w2 v r :=
 ⟨ownsRow_up h.1 hk,fun y hy=>⟨ownsRow_up (h.2 y hy).1 hk,fun z hz=>⟨ownsRow_up ((h.2 y hy).2 z hz).1 hk,fun u hu=>⟨ownsRow_up (((h.2 y hy).2 z hz).2 u hu).1 hk,ownsRow_up (((h.2 y hy).2 z hz).2 u hu).2 hk⟩⟩⟩⟩
def PrNew (B:Nat) (w:World) (v:Value) (q:Px):Prop:=∀ w2:World,(∀ k,B≤k→k < w.heap.size→w2.heap[k]?=w.heap[k]?)→PrAt w2 v q
def ProgO (o:Option Px) (w:World) (e:Ending) (w' : World):Prop:=match o with
 | none=>e=.returned (.tuple #[.agg #[.slice none 0 0,.slice none 0 0],.int .i64 70])∧Below w.heap.size w w'
 | some p=>∃ v,e=.returned (.tuple #[v,.int .i64 0])∧PrNew w.heap.size w' v p∧Below w.heap.size w w'
def W2 (w:World):World:=(w.alloc (.cells #[.slice none 0 0,.slice none 0 0] 27)).alloc (.cells #[.int .i64 0] 23)
theorem W2_size (w:World):(W2 w).heap.size=w.heap.size+2:=by unfold W2;simp
theorem W2_res (w:World):(W2 w).heap[w.heap.size]?=some (.cells #[.slice none 0 0,.slice none 0 0] 27 (0,0)):=alloc_old (alloc_new _ _) _
theorem W2_err (w:World):(W2 w).heap[w.heap.size+1]?=some (.cells #[.int .i64 0] 23 (0,0)):=by
 have:=alloc_new (w.alloc (.cells #[.slice none 0 0,.slice none 0 0] 27)) (.cells #[.int .i64 0] 23)
 rwa [World.size_alloc] at this
theorem W2_below (w:World):Below w.heap.size w (W2 w):=(alloc_below _ _).alloc (by simp) _
theorem out_leaves {tmps:Array Value} {wr:World} {o:Option Px} (h2:tmps[2]?=some (.pointer (some ⟨w.heap.size,0,none⟩))) (h3:tmps[3]?=some (.pointer (some ⟨w.heap.size+1,0,none⟩))) (hb:Below (W2 w).heap.size (W2 w) wr) (ho:o=none) :
  Leaves Tryz.prog Tryz.f62 tmps (ProgO o w) [{ target:=.fn (.func 101) #[.pointer (some ⟨w.heap.size+1,0,none⟩)],args:=#[] }] (.panicking CH) wr:=by
 have hs:=W2_size w
 have k0:=(hb.block _ (by omega)).trans (W2_res w)
 have k1:=(hb.block _ (by omega)).trans (W2_err w)
 have c0:=cells_of k0 0 _ rfl
 have c1:=cells_of k0 1 _ rfl
 have ce:=cells_of k1 0 _ rfl
 have fe:=(ShTB.cells_heap k1).2 0
 refine leaves_cons (f:=101) (args:=#[.pointer (some ⟨w.heap.size+1,0,none⟩)]) (by simp) (by simp [go_sem]) ?_
 refine (catch_out ⟨w.heap.size+1,0,none⟩ 0 wr ce fe).mono ?_
 rintro e u' w'' ⟨rfl,rfl,rfl⟩
 have hne:(⟨w.heap.size,0,none⟩:Addr).block≠(⟨w.heap.size+1,0,none⟩:Addr).block:=by simp
 have e0:(wr.setCell ⟨w.heap.size+1,0,none⟩ (.int .i64 70)).cell? ⟨w.heap.size,0,none⟩=some (.slice none 0 0):=(World.cell?_setCell_other wr _ _ _ (by simp)).trans c0
 have e1:(wr.setCell ⟨w.heap.size+1,0,none⟩ (.int .i64 70)).cell? ⟨w.heap.size,1,none⟩=some (.slice none 0 0):=(World.cell?_setCell_other wr _ _ _ (by simp)).trans c1
 have e2:(wr.setCell ⟨w.heap.size+1,0,none⟩ (.int .i64 70)).cell? ⟨w.heap.size+1,0,none⟩=some (.int .i64 70):=World.cell?_setCell_same wr _ _ ce
 have hB:Below w.heap.size w (wr.setCell ⟨w.heap.size+1,0,none⟩ (.int .i64 70)):=((W2_below w).trans (hb.mono (by omega))).setCell (p:=⟨w.heap.size+1,0,none⟩) (by simp) _
 subst ho
 simp [Leaves,settle,results,Tryz.results62,go_sem,h2,h3,e0,e1,e2]
 exact ⟨rfl,hB⟩
def Gone (W:World) (ds:List Deferred) (p2 p3:Value):Exit→Act→World→Prop
 | .panic c,a,wr=>c=CH∧Below W.heap.size W wr∧a.defers=ds∧a.tmps[2]?=some p2∧a.tmps[3]?=some p3
 | _,_,_=>False
theorem Gone.put {W:World} {ds:List Deferred} {p2 p3:Value} {c:List PanicEntry} {a:Act} {d:Nat} {v:Value} {wr:World} (h:Gone W ds p2 p3 (.panic c) (a.put (some d) v) wr) (h2:d≠2) (h3:d≠3):Gone W ds p2 p3 (.panic c) a wr:=by
 obtain ⟨g1,g2,g3,g4,g5⟩:=h
 refine ⟨g1,g2,g3,?_,?_⟩
 ·rw [← g4];simp [Act.put,h2]
 ·rw [← g5];simp [Act.put,h3]
end Go.Proofs.YtpejpnffcepdlaaGreatDoor.RcW
namespace Go.Proofs.YtpejpnffcepdlaaGreatDoor.RcX
open Go.RowKit Go.Lib TyM TyP ShM ShP ShB IntO SetP LxM LxJ LxY RwO RdM RdN RdV RdB RdK Aft RgZ RcP RcA RcB RcC RcD RcT RcO RcR RcS RcV RcW
open TyW (Row rowVals rowVals_length)
open LxP (LinesAt StrsAt)

theorem typ_parts {l:Ln} {t:Ty} (h:kindP l=some t):t.parts.length≤l.length:=by
 rw [← typ_kind] at h
 have h:=RcQ.done_some h
 cases l with
 | nil=>cases h
 | cons x l =>
  have key:∀ (m:Ln) (r:List Int),marksO 116 m=some r→r.length=m.length:=fun m r hm=>marks_len hm
  unfold typC at h
  simp only at h
  split at h
  ·cases h;simp
  split at h
  ·split at h
   ·cases h
   ·cases h;simp
  split at h
  ·split at h
   ·cases h
   ·rename_i e m hq
    cases hr:marksO 116 m with
    | none=>rw [hr] at h;cases h
    | some r =>
     rw [hr] at h
     cases h
     have h1:=key _ _ hr
     have h2:m.length≤l.length:=by
      cases l with
      | nil=>cases hq
      | cons y l =>
       rw [markC_cons] at hq
       split at hq
       ·cases hq;simp
       ·cases hq
     simp
     omega
  split at h
  ·cases hr:marksO 116 l with
   | none=>rw [hr] at h;cases h
   | some r =>
    rw [hr] at h
    cases h
    have h1:=key _ _ hr
    simp
    omega
  split at h
  ·split at h
   ·cases h
   ·split at h
    ·cases h
    ·cases h;simp
  ·cases h
theorem func_c_len {ts:List Ty} {ws:Ln} {L:List Ln} {f:Fx} {n:Nat} (h:funcC ts ws L=some (f,n)):n≤L.length:=by
 unfold funcC at h
 split at h
 ·exact (func_len h).2
 ·cases h
theorem fnsAt_of {B:Nat} {w:World} {v:Value} {r:List Fr} (h:OwnFns B w v r) {fs:List Fx} (he:r.map Fr.fx=fs):FnsAt w v fs:=he ▸ h.row
theorem program_calls (L:List Ln) (lv:Value) (w:World) (hl:LinesAt w lv L) (hf:FineL L) (htab:ShA.Tab w) (hto:TabO w) :
  Calls Tryz.prog 62 #[lv] w (ProgO (programP L) w):=by
 have hmf:∀ (fn:Fn) (first cap:Array Value) (w:World),(Instr.makeFunc fn first cap).run Tryz.prog w=.ok (.func fn first cap) w:=fun _ _ _ _=>rfl
 obtain ⟨la,lc,rfl,_⟩:=hl.slice
 have hs2:=W2_size w
 have HTAB:Hid (ShA.Tab (W2 w)):=htab.on (W2_below w)
 have HTO:Hid (TabO (W2 w)):=hto.on (W2_below w)
 have hlw:LinesAt (W2 w) (.slice la L.length lc) L:=hl.below (W2_below w)
 obtain ⟨X,hX⟩:∃ X,X=((w.alloc (.cells #[.slice none 0 0,.slice none 0 0] 27)).alloc (.cells #[.int .i64 0] 23)).alloc (.cells #[.slice la L.length lc,.slice none 0 0,.int .i64 0,.slice none 0 0] 164):=⟨_,rfl⟩
 have hX2:X=(W2 w).alloc (.cells #[.slice la L.length lc,.slice none 0 0,.int .i64 0,.slice none 0 0] 164):=hX
 have HX:=hid hX
 have HR0:Hid (Rdr (W2 w) (w.heap.size+1+1) L [] 0 (.slice none 0 0) X):=by
  refine ⟨?_,by rw [hs2];exact Nat.le_refl _,⟨_,_,?_,hlw,LxP.list_none _⟩,hf,fine_nil⟩
  ·rw [hX2];exact alloc_below _ _
  ·rw [hX2]
   have:=alloc_new (W2 w) (.cells #[.slice la L.length lc,.slice none 0 0,.int .i64 0,.slice none 0 0] 164)
   rwa [hs2] at this
 have HT0:Hid (TyOwn (W2 w).heap.size X (.slice none 0 0) []):=⟨World.ownsRow_nil _ _ _ _,by simp⟩
 have HLL:=hid hf.1
 have HPG:Hid (∀ ts M,typesP L=some (ts,M)→programP L=(funcsP ts M).map fun fs=>⟨ts,fs⟩):=fun ts M h=>by unfold programP;rw [h]
 have HPN:Hid (typesP L=none→programP L=none):=fun h=>by unfold programP;rw [h]
 have HP0:Hid (typesP L=preT (([]:List Row).map Prod.fst) (typesP (L.drop 0))):=by show _=_;rw [List.map_nil,preT_nil,List.drop_zero]
 generalize programP L=oo at *
 generalize htp:typesP L=tp at *
 clear hl hf htab hto hlw hX hX2 htp
 have HS2:=hid hs2
 clear hs2
 go_enter_defers Tryz.func62,Tryz.ntmps62
 go_wp2_with fail
 rw [← HX.out]
 clear HX
 go_loopg [] (L.length+1) (fun gk wr=>∃ (k:Nat) (ws:Ln) (tv:Value) (r:List Row),k+gk=L.length+1∧k≤L.length∧r.length≤k∧tp=preT (r.map Prod.fst) (typesP (L.drop k))∧Rdr (W2 w) (w.heap.size+1+1) (L.drop k) ws 0 tv wr∧TyOwn (W2 w).heap.size wr tv r∧∀ x∈r,x.1.parts.length≤20000)
 case atStart=>exact ⟨0,[],_,[],by omega,by omega,by simp,HP0.out,by rw [List.drop_zero];exact HR0.out,HT0.out,by simp⟩
 case round =>
  obtain ⟨k,ws,tv,r,hk,hkl,hrl,hp,hr,ht,hpp⟩:=hrel
  have HK:=hid hk
  have HKL:=hid hkl
  have HRL:=hid hrl
  have HP:=hid hp
  have HT:=hid ht
  have HPP:=hid hpp
  clear hk hkl hrl hp ht hpp HR0 HT0 HP0
  by_cases he:∃ l M,L.drop k=l :: M∧w0 l=[116,121,112,101]
  ·obtain ⟨l,M,hd,hw⟩:=he
   rw [hd] at hr
   have HC:=hid (begins_on ⟨#[116,121,112,101]⟩ hr hw)
   unfold Goes at HC
   have HR:=hid hr
   have HD0:=hid hd
   have HW0:=hid hw
   have HF1:=hid hr.fl.head.2.1
   clear hr hd hw
   go_wp2_with fail
   refine HC.out.mono ?_
   rintro e w1 ⟨rfl,hr1,hk1⟩
   have HR1:=hid hr1
   have HT1:=hid (HT.out.go HR.out hk1)
   obtain ⟨ta,tc,htv⟩:=own_form HT1.out.1
   subst htv
   clear hr1 hk1 HC HR HT
   have HDR:=hid HR1.out.draw
   have HDT:=hid (HT1.out.on ((Below.refl _ w1).drew))
   have HV0:Hid (w1.drew.cell? ⟨w.heap.size+1+1,3,none⟩=some (.slice ta r.length tc)):=by
    obtain ⟨_,_,_,_,_,_,_,c3,_⟩:=HDR.out.facts
    exact c3
   cases hty:typC (l.drop 1) with
   | none =>
    have HC:=hid (typ_no HDR.out hty)
    unfold Out at HC
    have HN:Hid (oo=none):=HPN.out (by rw [HP.out,HD0.out,typesP,if_pos HW0.out,← typ_kind,hty];rfl)
    clear hty
    go_upto_region 4 with fail
    refine Code.wp_mono (Q:=Gone (W2 w) [{ target:=.fn (.func 101) #[.pointer (some ⟨w.heap.size+1,0,none⟩)],args:=#[] }] (.pointer (some ⟨w.heap.size,0,none⟩)) (.pointer (some ⟨w.heap.size+1,0,none⟩))) (fun e a wr hg=>?_) ?_
    ·cases e with
     | panic c =>
      obtain ⟨rfl,g2,g3,g4,g5⟩:=hg
      show Leaves _ _ _ _ _ _ _
      rw [g3]
      exact out_leaves g4 g5 g2 HN.out
     | _=>exact hg.elim
    refine wp_region_Z (S:=(fun w'=>w'.cell? ⟨w.heap.size+1+1,3,none⟩=some (.slice ta r.length tc))) (Z:=[6]) (by kernel_rfl) ?_ (fun hHeld=>?_)
    ·(try dsimp only)
     exact HV0.out
    refine wpAnyZ_takeP (i:=0) (oi:=⟨_,_,_,_,_,_⟩) (v:=?_) rfl (by kernel_rfl) (by kernel_rfl) (by kernel_rfl) (by kernel_rfl) (fun _ _ _ h=>h.put (by decide) (by decide)) (Or.inl ⟨by rfl,?_⟩) (fun _=>by assumption) ?_
    rotate_left
    ·intro w hSw;(try dsimp only at hSw);go_simp;all_goals (try with_reducible rfl)
    try simp only [Act.put,List.setIfInBounds_toArray,List.set_cons_zero,List.set_cons_succ]
    refine wpAnyZ_take (i:=1) (oi:=⟨_,_,_,_,_,_⟩) (v:=?_) rfl (by kernel_rfl) (by kernel_rfl) (by kernel_rfl) (by kernel_rfl) (by kernel_rfl) (fun _ _ _ h=>h.put (by decide) (by decide)) (Or.inl ⟨by rfl,?_⟩) (by assumption) ?_
    rotate_left
    ·intro w hSw;(try dsimp only at hSw);go_simp;all_goals (try with_reducible rfl)
    refine zC 2 rfl (fun K hK=>?_)
    go_simp
    (go_at_call 103)
    refine HC.out.mono ?_
    rintro e w9 ⟨rfl,hk⟩
    have hb:=HDR.out.old hk
    exact ⟨rfl,hb,rfl,rfl,rfl⟩
   | some tm =>
    obtain ⟨t,m⟩:=tm
    have HC:=hid (typ_yes HDR.out hty)
    unfold TypO at HC
    have HTY:=hid hty
    clear hty
    go_upto_region 4 with fail
    refine wp_region_noPanic ?_
    refine wp_region_Z (S:=(fun w'=>w'.cell? ⟨w.heap.size+1+1,3,none⟩=some (.slice ta r.length tc))) (Z:=[6]) (by kernel_rfl) ?_ (fun hHeld=>?_)
    ·(try dsimp only)
     exact HV0.out
    refine zP 0 rfl ?_
    refine zT 1 rfl ?_
    refine zC 2 rfl (fun K hK=>?_)
    go_simp
    (go_at_call 103;(with_reducible refine HC.out.mono ?_);rintro e w2 ⟨pv,rfl,hpa,hr2,hk2⟩;obtain ⟨ja,jn,jc,rfl⟩:∃ a n c,pv=.slice a n c:=(by obtain ⟨a,c,h,_⟩:=hpa.1;exact ⟨_,_,_,h⟩);have HPA:=hid (hpa.base (C:=(W2 w).heap.size) HDR.out.be.size);have HR2:=hid hr2;have HT2:=hid (HDT.out.go HDR.out hk2);have HV1:Hid (w2.cell? ⟨w.heap.size+1+1,3,none⟩=some (.slice ta r.length tc)):=(by obtain ⟨_,_,_,_,_,_,_,c3,_⟩:=HR2.out.facts;exact c3);clear hpa hr2 hk2 HC)
    refine hK.out _ _ ?_ (fun hHeld=>?_)
    ·(try dsimp only)
     exact HV1.out
    clear hK K
    refine zC 3 rfl (fun K hK=>?_)
    go_simp
    refine hK.out _ _ ?_ (fun hHeld=>?_)
    ·(try dsimp only)
     exact keep_below (alloc_below _ _) HV1.out
    clear hK K
    refine zC 4 rfl (fun K hK=>?_)
    rw [if_pos (by rfl)]
    have hb5:=alloc_below w2 (.cells #[.int .u8 t.kind,.int .i64 t.elem,.int .i64 t.many,.slice ja jn jc] 43)
    have HR3:=hid (HR2.out.on hb5)
    have HT3:=hid (HT2.out.on hb5)
    have HPA3:=hid (HPA.out.below hb5)
    have hsz:(W2 w).heap.size≤(w2.alloc (.cells #[.int .u8 t.kind,.int .i64 t.elem,.int .i64 t.many,.slice ja jn jc] 43)).heap.size:=HR3.out.be.size
    refine wp_append_row tyW (by decide) infoTy Tryz.underlying24 zeroTy (.tmp 12) (.tmp 14) rfl (W2 w).heap.size (.slice ta r.length tc) rfl r.length (rowOf tyRow r) HT3.out.1 w2.heap.size 0 1 1 [((t,.slice ja jn jc):Row)] rfl rfl (fun z hz=>by rw [List.mem_singleton.1 hz];exact oneTy _ ⟨_,_,_,rfl⟩) (row_new _ _ _ _ tyRow rfl) (by have:=HRL.out;have:=HKL.out;have:=HLL.out;unfold maxLen;simp;omega) (by have:=HRL.out;have:=HKL.out;have:=HLL.out;simp;omega) hsz ?_
    intro v6 w6 hown6 hgr6
    have HT6:=hid (HT3.out.grow (y:=((t,.slice ja jn jc):Row)) HPA3.out hown6 hgr6)
    have HR6:=hid (Rdr_grown HR3.out HT3.out.1 (Nat.le_refl _) (by decide) hgr6)
    have HV2:Hid (w6.cell? ⟨w.heap.size+1+1,3,none⟩=some (.slice ta r.length tc)):=by
     obtain ⟨_,_,_,_,_,_,_,c3,_⟩:=HR6.out.facts
     exact c3
    obtain ⟨p5,c5,h50⟩:=own_form hown6
    subst h50
    clear hown6 hgr6 hsz hb5
    refine hK.out _ _ ?_ (fun hHeld=>?_)
    ·(try dsimp only)
     exact HV2.out
    clear hK K
    refine zP 5 rfl ?_
    refine zL 6 rfl (fun K hK=>?_)
    obtain ⟨_,_,_,_,_,_,_,_,hfz6,_⟩:=HR6.out.facts
    have zz:=hfz6 3
    have yy:=HV2.out
    clear hfz6
    go_simp
    refine hK.out _ _ ?_
    clear hK K
    refine wpAnyZ_done (by kernel_rfl) ?_ _
    refine NoPanic.normal ?_
    obtain ⟨X7,hX7⟩:∃ X,X=w6.setCell ⟨w.heap.size+1+1,3,none⟩ (.slice p5 (r.length+1) c5):=⟨_,rfl⟩
    have hr7:Rdr (W2 w) (w.heap.size+1+1) M m 0 (.slice p5 (r.length+1) c5) X7:=by rw [hX7];exact HR6.out.types _
    have ht7:TyOwn (W2 w).heap.size X7 (.slice p5 (r.length+1) c5) (r++[((t,.slice ja jn jc):Row)]):=by
     rw [hX7]
     obtain ⟨lv2,wv2,hcs,_⟩:=HR6.out.cs
     exact HT6.out.other (ShTB.grown_set w6 (w.heap.size+1+1) 3 _) (ShTB.typed_at hcs) (by decide) (by decide)
    have HX7:=hid hX7
    have HR7:=hid hr7
    have HT7:=hid ht7
    clear hr7 ht7 hX7 HV0 HV1 HV2 HT6 HR6 HT3 HR3 HPA HPA3 HT2 HR2 HDT HDR HT1 HR1
    cases hm:m with
    | cons z zs =>
     have HNE:=hid (show m≠[] by rw [hm];simp)
     have HN:Hid (oo=none):=HPN.out (by rw [HP.out,HD0.out,typesP,if_pos HW0.out,← typ_kind,HTY.out,hm];rfl)
     clear hm
     go_wp2_with fail
     rw [← HX7.out]
     refine (over_no HR7.out HNE.out).mono ?_
     rintro e w8 ⟨rfl,hk8⟩
     have hb:=HR7.out.old hk8
     go_wp2
     exact out_leaves rfl rfl hb HN.out
    | nil =>
     have hkd:kindP (l.drop 1)=some t:=by rw [← typ_kind,HTY.out,hm];rfl
     have hr7:=HR7.out
     rw [hm] at hr7
     have HR8:=hid hr7
     have HPX:Hid (tp=preT ((r++[((t,.slice ja jn jc):Row)]).map Prod.fst) (typesP M)):=by
      show _=_
      rw [HP.out,HD0.out,types_step HW0.out hkd,preT_pre,List.map_append]
      rfl
     have HPL:Hid (t.parts.length≤20000):=by
      have h1:=HF1.out
      have h2:=typ_parts hkd
      show _≤_
      rw [List.length_drop] at h2
      omega
     have HDM:Hid (L.drop (k+1)=M):=by
      show List.drop _ _=_
      have:=List.drop_drop (i:=1) (j:=k) (l:=L)
      rw [HD0.out] at this
      simpa [Nat.add_comm] using this.symm
     have HLT:Hid (k < L.length):=by
      show _ < _
      have:=congrArg List.length HD0.out
      rw [List.length_drop] at this
      simp at this
      omega
     clear hm hkd hr7 HR7
     go_wp2_with fail
     rw [← HX7.out]
     refine (over_yes HR8.out).mono ?_
     rintro e w8 ⟨rfl,hr8,hk8⟩
     have HR9:=hid hr8
     have HT9:=hid (HT7.out.go HR8.out hk8)
     clear hr8 hk8 HR8 HT7 HX7
     go_wp2
     go_roundg (gk - 1)
     case measure=>have:=HK.out;have:=HLT.out;omega
     case rel=>exact ⟨k+1,[],_,r++[((t,.slice ja jn jc):Row)],by have:=HK.out;have:=HLT.out;omega,by have:=HLT.out;omega,by have:=HRL.out;simp;omega,by rw [HDM.out];exact HPX.out,by rw [HDM.out];exact HR9.out,HT9.out,fun x hx=>by
      rcases List.mem_append.1 hx with hx | hx
      ·exact HPP.out x hx
      ·rw [List.mem_singleton.1 hx];exact HPL.out⟩
  ·have hw:∀ l M,L.drop k=l :: M→w0 l≠un ⟨#[116,121,112,101]⟩:=fun l M hd hx=>he ⟨l,M,hd,hx⟩
   have HC:=hid (begins_off ⟨#[116,121,112,101]⟩ hr hw)
   unfold Goes at HC
   have HR:=hid hr
   have htp:tp=some (r.map Prod.fst,L.drop k):=by
    rw [HP.out,types_off hw]
    simp [preT]
   have HPR:=hid (HPG.out _ _ htp)
   clear hr hw he htp HPG HPN HP
   obtain ⟨M,hM⟩:∃ M,M=L.drop k:=⟨_,rfl⟩
   rw [← hM] at HC HR HPR
   have HML:Hid (M.length≤20000):=by
    have h1:=HLL.out
    show _≤_
    rw [hM,List.length_drop]
    omega
   clear hM
   go_wp2_with fail
   refine HC.out.mono ?_
   rintro e w1 ⟨rfl,hr1,hk1⟩
   have HR1:=hid hr1
   have HT1:=hid (HT.out.go HR.out hk1)
   have HF0:Hid (funcsP (r.map Prod.fst) M=preG (([]:List Fr).map Fr.fx) (funcsP (r.map Prod.fst) (M.drop 0))):=by show _=_;rw [List.map_nil,preG_nil,List.drop_zero]
   have HO0:Hid (OwnFns (W2 w).heap.size w1 (.slice none 0 0) []):=⟨World.ownsRow_nil _ _ _ _,by simp⟩
   clear hr1 hk1 HC HR HT
   go_wp2_with fail
   go_loopg [5] (M.length+1) (fun gf fv wr=>∃ (j:Nat) (ws:Ln) (rg:Int) (fs:List Fr),j+gf=M.length+1∧j≤M.length∧fs.length≤j∧funcsP (r.map Prod.fst) M=preG (fs.map Fr.fx) (funcsP (r.map Prod.fst) (M.drop j))∧Rdr (W2 w) (w.heap.size+1+1) (M.drop j) ws rg tv wr∧TyOwn (W2 w).heap.size wr tv r∧OwnFns (W2 w).heap.size wr fv fs)
   case atStart=>exact ⟨0,_,_,[],by omega,by omega,by simp,HF0.out,by rw [List.drop_zero];exact HR1.out,HT1.out,HO0.out⟩
   case round =>
    obtain ⟨j,ws2,rg,fs,hj,hjl,hfl,hff,hr2,ht2,ho2⟩:=hrel
    have HJ:=hid hj
    have HJL:=hid hjl
    have HFL:=hid hfl
    have HFF:=hid hff
    have HT2:=hid ht2
    have HO2:=hid ho2
    clear hj hjl hfl hff ht2 ho2 HR1 HT1 HF0 HO0
    by_cases he:∃ l N,M.drop j=l :: N∧w0 l=[102,117,110,99]
    rotate_left
    ·have hw:∀ l N,M.drop j=l :: N→w0 l≠un ⟨#[102,117,110,99]⟩:=fun l N hd hx=>he ⟨l,N,hd,hx⟩
     have HC:=hid (begins_off ⟨#[102,117,110,99]⟩ hr2 hw)
     unfold Goes at HC
     have HR2:=hid hr2
     have HW:=hid hw
     clear hr2 hw he
     obtain ⟨fa,fc,hfv⟩:=own_form HO2.out.1
     subst hfv
     go_wp2_with fail
     refine HC.out.mono ?_
     rintro e w3 ⟨rfl,hr3,hk3⟩
     have HR3:=hid hr3
     have HT3:=hid (HT2.out.go HR2.out hk3)
     have HO3:=hid (ownFns_other HO2.out hk3.grown (Rdr_typed HR2.out) (by decide) (by decide) (by decide) (by decide))
     clear hr3 hk3 HC HR2 HT2 HO2
     obtain ⟨xa,xc,wa,wc,c0,c1,c2,c3,hfz,_⟩:=HR3.out.facts
     clear c1 c2 hfz
     cases hd:M.drop j with
     | cons l N =>
      have HN:Hid (oo=none):=by
       show _=_
       rw [HPR.out,HFF.out,hd,funcs_cons,if_neg (fun h=>HW.out l N hd h.2)]
       rfl
      have hb:=HR3.out.be
      rw [hd] at c0
      have hne:(((l :: N).length:Int) == 0)=false:=by simp;omega
      clear hd
      generalize (l :: N).length=nn at *
      go_wp2_with fail
      refine (must_no w3).mono ?_
      rintro e w4 ⟨rfl,rfl⟩
      go_wp2
      exact out_leaves rfl rfl hb HN.out
     | nil =>
      rw [hd] at c0
      have HY:Hid (oo=some ⟨r.map Prod.fst,fs.map Fr.fx⟩):=by
       show _=_
       rw [HPR.out,HFF.out,hd,funcs_nil]
       simp [preG]
      clear hd
      obtain ⟨ta,tc,htv⟩:=own_form HT3.out.1
      subst htv
      have hb:=HR3.out.be
      have hs2:=HS2.out
      have k0:=(hb.block w.heap.size (by omega)).trans (W2_res w)
      have k1:=(hb.block (w.heap.size+1) (by omega)).trans (W2_err w)
      have y0:=cells_of k0 0 _ rfl;have y1:=cells_of k0 1 _ rfl;have ye:=cells_of k1 0 _ rfl
      have hz:=(ShTB.cells_heap k0).2
      have z0:=hz 0;have z1:=hz 1
      have ze:=(ShTB.cells_heap k1).2 0
      obtain ⟨X5,hX5,hne5,hk5,hb5⟩:=set2_world w3 w.heap.size 27 (.slice none 0 0) (.slice none 0 0) (.slice ta r.length tc) (.slice fa fs.length fc) k0
      have hk51:=(hne5 (w.heap.size+1) (by omega)).trans k1
      have hone5:=kept_one hne5 (hb5 0 w3 (Below.refl _ _) (Nat.zero_le _))
      have ht5:=HT3.out.other hone5.grown (ShTB.typed_at k0) (by decide) (by decide)
      have ho5:=ownFns_other HO3.out hone5.grown (ShTB.typed_at k0) (by decide) (by decide) (by decide) (by decide)
      have hg6:=ShTB.grown_set X5 (w.heap.size+1) 0 (.int .i64 0)
      have ht6:=ht5.other hg6 (ShTB.typed_at hk51) (by decide) (by decide)
      have ho6:=ownFns_other ho5 hg6 (ShTB.typed_at hk51) (by decide) (by decide) (by decide) (by decide)
      have hB5:=hb5 w.heap.size w ((W2_below w).trans (hb.mono (by omega))) (Nat.le_refl _)
      obtain ⟨X6,hX6⟩:∃ X,X=X5.setCell ⟨w.heap.size+1,0,none⟩ (.int .i64 0):=⟨_,rfl⟩
      have hB6:Below w.heap.size w X6:=by rw [hX6];exact hB5.setCell (p:=⟨w.heap.size+1,0,none⟩) (by simp) _
      rw [← hX6] at ht6 ho6 hg6
      have e0:=cells_of ((hg6.block w.heap.size (Array.getElem?_eq_some_iff.1 hk5).1 (by simp)).trans hk5) 0 _ rfl
      have e1:=cells_of ((hg6.block w.heap.size (Array.getElem?_eq_some_iff.1 hk5).1 (by simp)).trans hk5) 1 _ rfl
      have e2:X6.cell? ⟨w.heap.size+1,0,none⟩=some (.int .i64 0):=by rw [hX6];exact World.cell?_setCell_same _ _ _ (cells_of hk51 0 _ rfl)
      have HX5:=hid (hX6.trans (by rw [hX5]))
      have HPR9:Hid (PrNew w.heap.size X6 (.agg #[.slice ta r.length tc,.slice fa fs.length fc]) ⟨r.map Prod.fst,fs.map Fr.fx⟩):=fun w2 hk2=>⟨_,_,rfl,(tyOwn_up ht6 (fun k h1 h2=>hk2 k (by omega) h2)).tys (by have:=HRL.out;have:=HKL.out;have:=HLL.out;omega),fnsAt_of (ownFns_up ho6 (fun k h1 h2=>hk2 k (by omega) h2)) rfl⟩
      have HB6:=hid hB6
      clear hb hs2 k0 k1 hz hX5 hne5 hk5 hb5 hk51 hone5 ht5 ho5 hg6 ht6 ho6 hB5 hX6 hB6 HT3 HO3 HR3
      go_wp2_with fail
      refine (must_yes w3).mono ?_
      rintro e w4 ⟨rfl,rfl⟩
      go_wp2
      rw [← HX5.out]
      clear y0 y1 ye z0 z1 ze c0 c3
      refine leaves_cons (f:=101) (args:=#[.pointer (some ⟨w.heap.size+1,0,none⟩)]) (by simp) (by simp [go_sem]) ?_
      refine (catch_idle ⟨w.heap.size+1,0,none⟩ X6).mono ?_
      rintro e u' w'' ⟨rfl,rfl,rfl⟩
      simp [Leaves,settle,results,Tryz.results62,go_sem,e0,e1,e2]
      rw [HY.out]
      exact ⟨_,rfl,HPR9.out,HB6.out⟩
    obtain ⟨l,N,hd,hw⟩:=he
    rw [hd] at hr2
    have HC:=hid (begins_on ⟨#[102,117,110,99]⟩ hr2 hw)
    unfold Goes at HC
    have HR2:=hid hr2
    have HD0:=hid hd
    have HW0:=hid hw
    have HFN:=hid (show FineL N from hr2.fl.tail)
    clear hr2 hd hw
    obtain ⟨fa,fc,hfv⟩:=own_form HO2.out.1
    subst hfv
    go_wp2_with fail
    refine HC.out.mono ?_
    rintro e w3 ⟨rfl,hr3,hk3⟩
    have HR3:=hid hr3
    have HT3:=hid (HT2.out.go HR2.out hk3)
    have HO3:=hid (ownFns_other HO2.out hk3.grown (Rdr_typed HR2.out) (by decide) (by decide) (by decide) (by decide))
    clear hr3 hk3 HC HR2 HT2 HO2
    have htl:r.length≤100000:=by have:=HRL.out;have:=HKL.out;have:=HLL.out;omega
    have hfc:=func_calls HR3.out HTAB.out HTO.out (fun w2 hk2=>(HT3.out.go HR3.out hk2).tys htl) (fun t ht=>by
     obtain ⟨x,hx,rfl⟩:=List.mem_map.1 ht
     exact HPP.out x hx)
    have hst:=funcs_step (r.map Prod.fst) N HW0.out
    have HLT:Hid (j < M.length∧N.length+1=M.length - j):=by
     have:=congrArg List.length HD0.out
     rw [List.length_drop] at this
     simp only [List.length_cons] at this
     have:=HJL.out
     show _∧_
     omega
    clear htl
    cases hfu:funcC (r.map Prod.fst) (l.drop 1) N with
    | none =>
     rw [hfu] at hfc hst
     have HC:Hid (Calls Tryz.prog 105 _ _ (Out (w.heap.size+1+1) w3)):=hfc
     unfold Out at HC
     have HN:Hid (oo=none):=by show _=_;rw [HPR.out,HFF.out,HD0.out,hst];rfl
     clear hfc hst hfu
     go_wp2_with fail
     refine HC.out.mono ?_
     rintro e w4 ⟨rfl,hk4⟩
     have hb:=HR3.out.old hk4
     go_wp2
     exact out_leaves rfl rfl hb HN.out
    | some xn =>
     obtain ⟨x,n⟩:=xn
     have hln:=func_c_len hfu
     rw [hfu] at hfc hst
     have HC:Hid (Calls Tryz.prog 105 _ _ (FuncO (W2 w) (w.heap.size+1+1) N tv (some (x,n)) w3)):=hfc
     have HFX:Hid (funcsP (r.map Prod.fst) M=preG (fs.map Fr.fx++[x]) (funcsP (r.map Prod.fst) (M.drop (j+(1+n))))):=by
      show _=_
      rw [HFF.out,HD0.out,hst]
      simp only
      rw [preG_pre]
      congr 2
      have:=List.drop_drop (i:=1+n) (j:=j) (l:=M)
      rw [HD0.out] at this
      rw [← this,Nat.add_comm 1 n,List.drop_succ_cons]
     have HDM:Hid (M.drop (j+(1+n))=N.drop n):=by
      show List.drop _ _=_
      have:=List.drop_drop (i:=1+n) (j:=j) (l:=M)
      rw [HD0.out] at this
      rw [← this,Nat.add_comm 1 n,List.drop_succ_cons]
     have HLN:=hid hln
     clear hfc hst hfu hln
     go_wp2_with fail
     refine HC.out.mono ?_
     rintro e w4 ⟨vb,bs,rg4,ws4,rfl,hob,hbx,hr4,hk4⟩
     obtain ⟨ja,jc,rfl⟩:∃ a c,vb=.slice a bs.length c:=own_form hob.1
     have hb5:=alloc_below w4 (.cells #[.int .i64 x.sig,.slice ja bs.length jc] 41)
     have HR5:=hid (hr4.on hb5)
     have HT5:=hid ((HT3.out.go HR3.out hk4).on hb5)
     have ho4:=ownFns_other HO3.out hk4.grown (Rdr_typed HR3.out) (by decide) (by decide) (by decide) (by decide)
     have HO5:=hid (show OwnFns (W2 w).heap.size (w4.alloc (.cells #[.int .i64 x.sig,.slice ja bs.length jc] 41)) _ fs from ho4.below hb5)
     have HB5:=hid ((show OwnBlks (W2 w).heap.size w4 _ bs from hob.base HR3.out.be.size).below hb5)
     have HBX:=hid hbx
     have hsz:(W2 w).heap.size≤(w4.alloc (.cells #[.int .i64 x.sig,.slice ja bs.length jc] 41)).heap.size:=HR5.out.be.size
     have HONE:Hid (∀ z∈[(⟨x.sig,.slice ja bs.length jc,bs⟩:Fr)],∀ u∈frV z,u.oneCell'=true):=fun z hz=>by rw [List.mem_singleton.1 hz];exact oneFr _ ⟨_,_,_,rfl⟩
     have HCELL:Hid (0 < [(⟨x.sig,.slice ja bs.length jc,bs⟩:Fr)].length→∃ b off,some (⟨w4.heap.size,0,none⟩:Addr)=some ⟨b,off,none⟩∧∀ j u,(rowOf frV [(⟨x.sig,.slice ja bs.length jc,bs⟩:Fr)])[j]?=some u→(w4.alloc (.cells #[.int .i64 x.sig,.slice ja bs.length jc] 41)).cell? ⟨b,off+j,none⟩=some u):=fun _=>⟨_,_,rfl,row_new _ _ _ _ frV rfl⟩
     have HMX:Hid (fs.length + [(⟨x.sig,.slice ja bs.length jc,bs⟩:Fr)].length≤maxLen):=by show _≤_;have:=HFL.out;have:=HJL.out;have:=HML.out;unfold maxLen;simp;omega
     have HBY:Hid ((fs.length + [(⟨x.sig,.slice ja bs.length jc,bs⟩:Fr)].length) * 32≤140737488355328):=by show _≤_;have:=HFL.out;have:=HJL.out;have:=HML.out;simp;omega
     clear hob hbx hr4 hk4 hb5 ho4 HC HR3 HT3 HO3
     go_wp2_with (at_builtin;refine wpList_append_row frW (by decide) infoFn Tryz.underlying25 zeroFn rfl (.tmp 19) (.tmp 21) rfl (W2 w).heap.size (.slice fa fs.length fc) rfl fs.length (rowOf frV fs) HO5.out.1 (some ⟨w4.heap.size,0,none⟩) 1 1 [(⟨x.sig,.slice ja bs.length jc,bs⟩:Fr)] rfl rfl HONE.out (fun h=>by cases h) HCELL.out HMX.out HBY.out hsz ?_)
     intro v6 w6 hown6 hgr6
     have HR6:=hid (Rdr_grown HR5.out HO5.out.1 (Nat.le_refl _) (by decide) hgr6)
     have HT6:=hid (HT5.out.other hgr6 (own_typed HO5.out.1) (by decide) (by decide))
     have HO6:=hid (fns_more (y:=⟨x.sig,.slice ja bs.length jc,bs⟩) HO5.out HB5.out hown6 hgr6)
     obtain ⟨p5,c5,h50⟩:=own_form hown6
     subst h50
     clear hown6 hgr6 hsz HR5 HT5 HO5 HB5
     go_wp2
     go_roundg (gk - (1+n))
     case measure=>have:=HJ.out;have:=HLT.out;omega
     case rel =>
      refine ⟨j+(1+n),ws4,rg4,fs++[(⟨x.sig,.slice ja bs.length jc,bs⟩:Fr)],by have:=HJ.out;have:=HLT.out;have:=HLN.out;omega,by have:=HLT.out;have:=HLN.out;omega,by have:=HFL.out;simp;omega,?_,by rw [HDM.out];exact HR6.out,HT6.out,HO6.out⟩
      rw [HFX.out,List.map_append]
      have hxx:(⟨x.sig,bs.map Br.bx⟩:Fx)=x:=by rw [HBX.out]
      show _=preG (_++[(⟨x.sig,bs.map Br.bx⟩:Fx)]) _
      rw [hxx]
end Go.Proofs.YtpejpnffcepdlaaGreatDoor.RcX
