/- Walk over shape.mayEnd. Walk over shape.may. Walks over shape.mayFunc and what it calls. Walk over the reference's sameIns. Walks over the reference's sameBlocks, Same. -/
import Derived.Test.YtpejpnffcepdlaaGreatDoorYShEToShER
import Derived.Test.YtpejpnffcepdlaaGreatDoorYShBToShW
import Derived.Test.YtpejpnffcepdlaaGreatDoorYTyBToTyTI
import Derived.Deep.Cut
import Derived.Deep.CutRange
import Derived.Deep.DeepCutAuto
import Derived.Test.YtpejpnffcepdlaaGreatDoorYRgZToRgY
import Derived.Test.YtpejpnffcepdlaaGreatDoorYIntOToSwXd
import Derived.Test.YtpejpnffcepdlaaGreatDoorYRwHToShTB
import Derived.Deep.RegionHeld3
import Derived.Deep.QuietTactic
import Derived.BigQuiet
import Derived.WalkSmall
set_option maxRecDepth 100000
set_option maxHeartbeats 16000000
namespace Go.Proofs.YtpejpnffcepdlaaGreatDoor.ShF
open Go.RowKit Go.Lib SetP IntO TyM TyP TyB TyC ShM ShP ShA ShB ShC ShE ShQ

/-! old memory, as a region that draws its order keeps it -/
theorem old_start (w:World):w.heap.size≤w.drew.heap.size∧∀ b o,b < w.heap.size→w.drew.cell? ⟨b,o,none⟩=w.cell? ⟨b,o,none⟩:=⟨Nat.le_refl _,fun _ _ _=>rfl⟩
theorem old_call {w0 wp wa:World} {n:Nat} (hb:Below wp.heap.size wp wa) (h:n≤wp.heap.size∧∀ b o,b < n→wp.cell? ⟨b,o,none⟩=w0.cell? ⟨b,o,none⟩):n≤wa.heap.size∧∀ b o,b < n→wa.cell? ⟨b,o,none⟩=w0.cell? ⟨b,o,none⟩ :=
 ⟨Nat.le_trans h.1 hb.size,fun b o hlt=>(hb.cell (p:=⟨b,o,none⟩) (Nat.lt_of_lt_of_le hlt h.1)).trans (h.2 b o hlt)⟩
theorem old_alloc {w0 wp:World} {n:Nat} {x:Obj} (h:n≤wp.heap.size∧∀ b o,b < n→wp.cell? ⟨b,o,none⟩=w0.cell? ⟨b,o,none⟩):n≤(wp.alloc x).heap.size∧∀ b o,b < n→(wp.alloc x).cell? ⟨b,o,none⟩=w0.cell? ⟨b,o,none⟩ :=
 old_call (alloc_below wp x) h
theorem old_set {w0 wp:World} {n p i:Nat} {v:Value} (hp:n≤p) (h:n≤wp.heap.size∧∀ b o,b < n→wp.cell? ⟨b,o,none⟩=w0.cell? ⟨b,o,none⟩):n≤(wp.setCell ⟨p,i,none⟩ v).heap.size∧∀ b o,b < n→(wp.setCell ⟨p,i,none⟩ v).cell? ⟨b,o,none⟩=w0.cell? ⟨b,o,none⟩:=by
 refine ⟨by simpa [World.setCell] using h.1,fun b o hlt=>?_⟩
 rw [← h.2 b o hlt]
 have:=Below.heap_setCell wp ⟨p,i,none⟩ v b (fun e=>by simp at e;omega)
 unfold World.cell?
 rw [this]
theorem old_drew {w0 wp:World} {n:Nat} (h:n≤wp.heap.size∧∀ b o,b < n→wp.cell? ⟨b,o,none⟩=w0.cell? ⟨b,o,none⟩):n≤wp.drew.heap.size∧∀ b o,b < n→wp.drew.cell? ⟨b,o,none⟩=w0.cell? ⟨b,o,none⟩:=h
theorem alloc_new_drew (w:World) (o:Obj):(w.alloc o).drew.heap[w.heap.size]?=some o:=alloc_new w o
theorem keepBlk {wp wa:World} {k:Nat} {x:Obj} (hb:Below wp.heap.size wp wa) (h:wp.heap[k]?=some x):wa.heap[k]?=some x :=
 (hb.block k (Array.getElem?_eq_some_iff.1 h).1).trans h

theorem three {w:World} {n:Nat} {x y z:Value} {ty:TypeId} (h:w.heap[n]?=some (.cells #[x,y,z] ty (0,0))) :
  (w.cell? ⟨n,0,none⟩=some x∧w.cell? ⟨n,1,none⟩=some y∧w.cell? ⟨n,2,none⟩=some z)∧(w.frozen? ⟨n,0,none⟩=false∧w.frozen? ⟨n,1,none⟩=false∧w.frozen? ⟨n,2,none⟩=false)∧n < w.heap.size:=by
 obtain ⟨f1,f2,f3,_⟩:=copyF h (Below.refl w.heap.size w) (Array.getElem?_eq_some_iff.1 h).1
 exact ⟨⟨f1 0 (by simp),f1 1 (by simp),f1 2 (by simp)⟩,⟨f2 0,f2 1,f2 2⟩,f3⟩
theorem set_heap' {w:World} {b i:Nat} {cs:Array Value} {t:TypeId} (u:Value) (h:w.heap[b]?=some (.cells cs t (0,0))):(w.setCell ⟨b,i,none⟩ u).heap[b]?=some (.cells (cs.setIfInBounds i u) t (0,0)):=TyD.set_heap u h
theorem set3 {w:World} {n:Nat} {x y z:Value} {ty:TypeId} (a b c:Value) (h:w.heap[n]?=some (.cells #[x,y,z] ty (0,0))):(((w.setCell ⟨n,0,none⟩ a).setCell ⟨n,1,none⟩ b).setCell ⟨n,2,none⟩ c).heap[n]?=some (.cells #[a,b,c] ty (0,0)):=by
 have:=set_heap' c (i:=2) (set_heap' b (i:=1) (set_heap' a (i:=0) h))
 simpa using this
theorem below_go {n:Nat} {w0 wp wa:World} (h:Below n w0 wp) (hb:Below wp.heap.size wp wa) (hs:n≤wp.heap.size):Below n w0 wa:=h.trans (hb.mono hs)
theorem below_size {n:Nat} {w0 wa:World} (hs:n≤w0.heap.size) (h:Below n w0 wa):n≤wa.heap.size:=Nat.le_trans hs h.size
theorem hE_dec (x0 x1 x2 y0 y1 y2:Int):((x0 == y0) && ((x1 == y1) && (x2 == y2)))=decide ((⟨x0,x1,x2⟩:HasE)=⟨y0,y1,y2⟩):=by
 rw [Bool.eq_iff_iff]
 simp [hase_eq]

theorem mayEnd_core (nt nr nf nb:Int) (x:Ex) (y:HasE) (w:World) (h1:0≤y.a∧y.a≤6) (h2:0≤y.to∧y.to≤6) (h3:0≤y.els∧y.els≤6)
  (HC:Hid (∀ wx,Below w.heap.size w wx→Calls Tryz.prog 137 #[.int .u8 x.kind] wx (ValR (hasEV y) wx))) :
  Calls Tryz.prog 111 #[limV nt nr nf nb,exV x] w (BoolR (decide (y≠hasE0) && decide ((⟨toldV (limL nt nr nf nb) y.a x.a,toldV (limL nt nr nf nb) y.to x.to,toldV (limL nt nr nf nb) y.els x.els⟩:HasE)=y)) w):=by
 have hb0:Below w.heap.size w ((w.alloc (.cells #[.int .i64 1,.int .i64 0,.int .i64 nt,.int .i64 nr,.int .i64 nf,.int .i64 nb,.int .i64 8] 186)).alloc (.cells #[.int .u8 x.kind,.int .i64 x.a,.int .i64 x.to,.int .i64 x.els] 35)):=(alloc_below _ _).alloc (by simp) _
 have HC1:=hid (HC.out _ hb0)
 have HT1:=hid (fun wx=>told_calls nt nr nf nb y.a x.a h1.1 h1.2 wx)
 have HT2:=hid (fun wx=>told_calls nt nr nf nb y.to x.to h2.1 h2.2 wx)
 have HT3:=hid (fun wx=>told_calls nt nr nf nb y.els x.els h3.1 h3.2 wx)
 generalize toldV (limL nt nr nf nb) y.a x.a=z1 at *
 generalize toldV (limL nt nr nf nb) y.to x.to=z2 at *
 generalize toldV (limL nt nr nf nb) y.els x.els=z3 at *
 clear HC h1 h2 h3
 have HB0:=hid hb0
 obtain ⟨xk,xa,xt,xe⟩:=x
 obtain ⟨ya,yt,ye⟩:=y
 simp only [hasEV,limV] at *
 clear hb0
 generalize hans:(decide ((⟨ya,yt,ye⟩:HasE)≠hasE0) && decide ((⟨z1,z2,z3⟩:HasE)=⟨ya,yt,ye⟩))=ans
 have HANS:Hid (ans=(!decide ((⟨ya,yt,ye⟩:HasE)=⟨0,0,0⟩) && decide ((⟨z1,z2,z3⟩:HasE)=⟨ya,yt,ye⟩))):=by
  show _=_
  rw [← hans,← decide_not];rfl
 clear hans
 go_enter Tryz.func111,Tryz.ntmps111
 go_wp2_with fail
 refine HC1.out.mono ?_
 rintro e w1 ⟨rfl,hb1⟩
 obtain ⟨f1,_,s1,k1⟩:=copyF (alloc_old (alloc_new _ _) _) hb1 (by simp only [World.size_alloc];omega)
 obtain ⟨f2,_,s2,k2⟩:=copyF (alloc_new _ _) hb1 (by simp only [World.size_alloc];omega)
 simp only [World.size_alloc] at f2 s2 k2
 have HBE:=hid (HB0.out.trans (hb1.mono HB0.out.size))
 clear HC1 hb1 HB0
 have HK1:=hid k1
 have HK2:=hid k2
 clear f1 f2 k1 k2
 go_upto_region 2 with fail
 obtain ⟨w2,hw2⟩:∃ w2:World,w2=w1.alloc (.cells #[.int .u8 ya,.int .u8 yt,.int .u8 ye] 210):=⟨_,rfl⟩
 rw [← hw2]
 have HB2:Hid (Below w.heap.size w w2):=by show Below _ _ _;rw [hw2];exact HBE.out.alloc HBE.out.size _
 have HL1:Hid (w2.heap[w.heap.size]?=some (.cells #[.int .i64 1,.int .i64 0,.int .i64 nt,.int .i64 nr,.int .i64 nf,.int .i64 nb,.int .i64 8] 186 (0,0))):=by show _=_;rw [hw2];exact alloc_old HK1.out _
 have HL2:Hid (w2.heap[w.heap.size+1]?=some (.cells #[.int .u8 xk,.int .i64 xa,.int .i64 xt,.int .i64 xe] 35 (0,0))):=by show _=_;rw [hw2];exact alloc_old HK2.out _
 have HL3:Hid (w2.heap[w1.heap.size]?=some (.cells #[.int .u8 ya,.int .u8 yt,.int .u8 ye] 210 (0,0))):=by show _=_;rw [hw2];exact alloc_new _ _
 clear hw2 HK1 HK2 HBE s1 s2
 generalize hbs:w.heap.size=bs at *
 have HBS:=hid hbs
 clear hbs
 generalize w1.heap.size=bw at *
 obtain ⟨f1,_,s1,_⟩:=copyF HL1.out (Below.refl w2.heap.size w2) (Array.getElem?_eq_some_iff.1 HL1.out).1
 obtain ⟨f2,_,s2,_⟩:=copyF HL2.out (Below.refl w2.heap.size w2) (Array.getElem?_eq_some_iff.1 HL2.out).1
 obtain ⟨f3,_,s3,_⟩:=copyF HL3.out (Below.refl w2.heap.size w2) (Array.getElem?_eq_some_iff.1 HL3.out).1
 have a0:=f1 0 (by simp);have a1:=f1 1 (by simp);have a2:=f1 2 (by simp);have a3:=f1 3 (by simp);have a4:=f1 4 (by simp);have a5:=f1 5 (by simp);have a6:=f1 6 (by simp)
 have b0:=f2 0 (by simp);have b1:=f2 1 (by simp);have b2:=f2 2 (by simp);have b3:=f2 3 (by simp)
 have c0:=f3 0 (by simp);have c1:=f3 1 (by simp);have c2:=f3 2 (by simp)
 simp only [List.getElem_toArray,List.getElem_cons_succ,List.getElem_cons_zero] at a0 a1 a2 a3 a4 a5 a6 b0 b1 b2 b3 c0 c1 c2
 clear f1 f2 f3
 go_cut [6] (fun p wc=>∃ n6:Nat,p=.pointer (some ⟨n6,0,none⟩)∧wc.heap[n6]?=some (.cells #[.int .u8 z1,.int .u8 z2,.int .u8 z3] 210 (0,0))∧wc.heap[bw]?=some (.cells #[.int .u8 ya,.int .u8 yt,.int .u8 ye] 210 (0,0))∧Below bs w wc)
 case first =>
  have HOS:=hid (old_start w2)
  generalize hn2:w2.heap.size=n2 at *
  have HN2:=hid hn2
  clear hn2
  have hsz3:n2≤w2.heap.size:=Nat.le_of_eq HN2.out.symm
  have HOS2:Hid (n2≤w2.heap.size∧∀ b o,b < n2→w2.cell? ⟨b,o,none⟩=w2.cell? ⟨b,o,none⟩):=⟨hsz3,fun _ _ _=>rfl⟩
  have HBW:Hid (bw < n2):=s3
  have HBB:Hid (∀ wx:World,Below n2 w2 wx→Below bs w wx):=fun wx hx=>HB2.out.trans (hx.mono (Nat.le_of_lt s1))
  have hsz2:n2≤w2.drew.heap.size:=by rw [← HN2.out];exact Nat.le_refl _
  go_region_held3 (fun w'=>n2≤w'.heap.size∧∀ b o,b < n2→w'.cell? ⟨b,o,none⟩=w2.cell? ⟨b,o,none⟩)
   (first | with_reducible exact HOS.out | with_reducible exact old_drew (old_alloc HOS2.out) | with_reducible exact old_alloc (by assumption) | with_reducible exact old_call (by assumption) (by assumption) | with_reducible exact old_alloc (old_call hb5 (old_call hb4 (old_call hb3 HOS.out))) | with_reducible exact old_set hn6 (old_set hn6 (old_set hn6 (by assumption))))
   (first | (go_at_call 157;(with_reducible refine (HT1.out _).mono ?_);rintro e w3 ⟨rfl,hb3⟩;(first | (with_reducible (have B3:=below_go (Below.refl n2 w2).drew hb3 hsz2)) | (with_reducible (have B3:=below_go ((Below.refl n2 w2).alloc hsz3 _).drew hb3 (Nat.le_trans hsz3 (alloc_below _ _).size))));have s3:=below_size hsz3 B3) | (go_at_call 157;(with_reducible refine (HT2.out _).mono ?_);rintro e w4 ⟨rfl,hb4⟩;(first | (with_reducible (have B4:=below_go B3 hb4 s3)) | (with_reducible (have B4:=below_go (B3.alloc s3 _) hb4 (Nat.le_trans s3 (alloc_below _ _).size))));have s4:=below_size hsz3 B4) | (go_at_call 157;(with_reducible refine (HT3.out _).mono ?_);rintro e w5 ⟨rfl,hb5⟩;(first | (with_reducible (have B5:=below_go B4 hb5 s4)) | (with_reducible (have B5:=below_go (B4.alloc s4 _) hb5 (Nat.le_trans s4 (alloc_below _ _).size))));have s5:=below_size hsz3 B5;(first | (with_reducible (have hz:=keepBlk hb5 (alloc_new _ _);have hn6:=Nat.le_trans (Nat.le_trans hsz2 hb3.size) hb4.size;obtain ⟨⟨e0,e1,e2⟩,⟨g0,g1,g2⟩,g3⟩:=three hz)) | (with_reducible (have hz:=keepBlk hb5 (keepBlk hb4 (alloc_new _ _));have hn6:=Nat.le_trans hsz2 hb3.size;obtain ⟨⟨e0,e1,e2⟩,⟨g0,g1,g2⟩,g3⟩:=three hz)) | (with_reducible (have hz:=keepBlk hb5 (keepBlk hb4 (keepBlk hb3 (alloc_new_drew _ _)));have hn6:=hsz3;obtain ⟨⟨e0,e1,e2⟩,⟨g0,g1,g2⟩,g3⟩:=three hz)) | skip)))
  all_goals
   go_wp2_with fail
   go_meet
   case rel =>
    first
    | (refine ⟨_,rfl,set3 _ _ _ hz,?_,?_⟩
       · exact (((B5.setCell (p:=⟨_,0,none⟩) hn6 _).setCell (p:=⟨_,1,none⟩) hn6 _).setCell (p:=⟨_,2,none⟩) hn6 _).block bw HBW.out |>.trans HL3.out
       · exact HBB.out _ (((B5.setCell (p:=⟨_,0,none⟩) hn6 _).setCell (p:=⟨_,1,none⟩) hn6 _).setCell (p:=⟨_,2,none⟩) hn6 _))
    | (refine ⟨_,rfl,alloc_new w5 _,?_,?_⟩
       · exact (B5.alloc s5 _).block bw HBW.out |>.trans HL3.out
       · exact HBB.out _ (B5.alloc s5 _))
 case rest =>
  clear HT1 HT2 HT3 HL1 HL2 HL3 HB2 a0 a1 a2 a3 a4 a5 a6 b0 b1 b2 b3 c0 c1 c2 s1 s2 s3
  obtain ⟨n6,rfl,k6,kb,hbF⟩:=hcut
  obtain ⟨⟨d0,d1,d2⟩,_,e3⟩:=three k6
  obtain ⟨⟨f0,f1,f2⟩,_,f3⟩:=three kb
  clear k6 kb
  have hq1:=fun w=>neq_hE ya yt ye 0 0 0 w
  have hq2:=fun w=>eql_hE z1 z2 z3 ya yt ye w
  simp only [hE_dec] at hq1 hq2
  cases hd1:decide ((⟨ya,yt,ye⟩:HasE)=⟨0,0,0⟩) with
  | true =>
   rw [hd1] at hq1
   rw [hd1] at HANS
   clear hd1
   go_wp2
   go_ret
   exact ⟨by rw [HANS.out];rfl,by rw [HBS.out];exact hbF⟩
  | false =>
   rw [hd1] at hq1
   rw [hd1] at HANS
   clear hd1
   generalize decide ((⟨z1,z2,z3⟩:HasE)=⟨ya,yt,ye⟩)=bb at *
   go_wp2
   go_ret
   exact ⟨by rw [HANS.out];simp,by rw [HBS.out];exact hbF⟩
end Go.Proofs.YtpejpnffcepdlaaGreatDoor.ShF
namespace Go.Proofs.YtpejpnffcepdlaaGreatDoor.ShG
open RgZ
open Go.RowKit Go.Lib SetP IntO TyM TyP TyB TyC ShM ShP ShA ShB ShC ShE ShQ ShF

theorem seven {w:World} {n:Nat} {c0 c1 c2 c3 c4 c5 c6:Value} {ty:TypeId} (h:w.heap[n]?=some (.cells #[c0,c1,c2,c3,c4,c5,c6] ty (0,0))) :
  (w.cell? ⟨n,0,none⟩=some c0∧w.cell? ⟨n,1,none⟩=some c1∧w.cell? ⟨n,2,none⟩=some c2∧w.cell? ⟨n,3,none⟩=some c3∧w.cell? ⟨n,4,none⟩=some c4∧w.cell? ⟨n,5,none⟩=some c5∧w.cell? ⟨n,6,none⟩=some c6) ∧
  (w.frozen? ⟨n,0,none⟩=false∧w.frozen? ⟨n,1,none⟩=false∧w.frozen? ⟨n,2,none⟩=false∧w.frozen? ⟨n,3,none⟩=false∧w.frozen? ⟨n,4,none⟩=false∧w.frozen? ⟨n,5,none⟩=false∧w.frozen? ⟨n,6,none⟩=false)∧n < w.heap.size:=by
 obtain ⟨f1,f2,f3,_⟩:=copyF h (Below.refl w.heap.size w) (Array.getElem?_eq_some_iff.1 h).1
 exact ⟨⟨f1 0 (by simp),f1 1 (by simp),f1 2 (by simp),f1 3 (by simp),f1 4 (by simp),f1 5 (by simp),f1 6 (by simp)⟩,⟨f2 0,f2 1,f2 2,f2 3,f2 4,f2 5,f2 6⟩,f3⟩
theorem set7 {w:World} {n:Nat} {c0 c1 c2 c3 c4 c5 c6:Value} {ty:TypeId} (d0 d1 d2 d3 d4 d5 d6:Value) (h:w.heap[n]?=some (.cells #[c0,c1,c2,c3,c4,c5,c6] ty (0,0))) :
  (((((((w.setCell ⟨n,0,none⟩ d0).setCell ⟨n,1,none⟩ d1).setCell ⟨n,2,none⟩ d2).setCell ⟨n,3,none⟩ d3).setCell ⟨n,4,none⟩ d4).setCell ⟨n,5,none⟩ d5).setCell ⟨n,6,none⟩ d6).heap[n]?=some (.cells #[d0,d1,d2,d3,d4,d5,d6] ty (0,0)):=by
 have:=set_heap' d6 (i:=6) (set_heap' d5 (i:=5) (set_heap' d4 (i:=4) (set_heap' d3 (i:=3) (set_heap' d2 (i:=2) (set_heap' d1 (i:=1) (set_heap' d0 (i:=0) h))))))
 simpa using this
theorem below7 {w0 w:World} {n B:Nat} (d0 d1 d2 d3 d4 d5 d6:Value) (h:Below B w0 w) (hn:B≤n) :
  Below B w0 (((((((w.setCell ⟨n,0,none⟩ d0).setCell ⟨n,1,none⟩ d1).setCell ⟨n,2,none⟩ d2).setCell ⟨n,3,none⟩ d3).setCell ⟨n,4,none⟩ d4).setCell ⟨n,5,none⟩ d5).setCell ⟨n,6,none⟩ d6) :=
 ((((((h.setCell (p:=⟨n,0,none⟩) hn _).setCell (p:=⟨n,1,none⟩) hn _).setCell (p:=⟨n,2,none⟩) hn _).setCell (p:=⟨n,3,none⟩) hn _).setCell (p:=⟨n,4,none⟩) hn _).setCell (p:=⟨n,5,none⟩) hn _).setCell (p:=⟨n,6,none⟩) hn _
theorem hI_dec (x0 x1 x2 x3 x4 x5 x6 y0 y1 y2 y3 y4 y5 y6:Int):((x0 == y0) && ((x1 == y1) && ((x2 == y2) && ((x3 == y3) && ((x4 == y4) && ((x5 == y5) && (x6 == y6)))))))=decide ((⟨x0,x1,x2,x3,x4,x5,x6⟩:Has)=⟨y0,y1,y2,y3,y4,y5,y6⟩):=by
 rw [Bool.eq_iff_iff]
 simp [has_eq]

theorem may_core (nt nr nf nb:Int) (x:Ix) (y:Has) (va vf:Value) (w:World) (ha:IntsAt w va x.args) (hf:IntsAt w vf x.frm)
  (h1:0≤y.typ∧y.typ≤6) (h2:0≤y.a∧y.a≤6) (h3:0≤y.b∧y.b≤6) (h4:0≤y.n∧y.n≤6) (h5:0≤y.per∧y.per≤1)
  (HC:Hid (∀ wx,Below w.heap.size w wx→Calls Tryz.prog 46 #[.int .u8 x.op] wx (ValR (hasV y) wx))) :
  Calls Tryz.prog 114 #[limV nt nr nf nb,ixV x va vf] w (BoolR (if y=has0∨(⟨toldV (limL nt nr nf nb) y.typ x.typ,toldV (limL nt nr nf nb) y.a x.a,toldV (limL nt nr nf nb) y.b x.b,toldV (limL nt nr nf nb) y.n x.n,min y.least x.args.length,max y.most x.args.length,y.per⟩:Has)≠y∨(x.frm.length:Int)≠y.per * x.args.length then false else lowB nr x.args && lowB nb x.frm) w):=by
 have hb0:Below w.heap.size w ((w.alloc (.cells #[.int .i64 1,.int .i64 0,.int .i64 nt,.int .i64 nr,.int .i64 nf,.int .i64 nb,.int .i64 8] 186)).alloc (.cells #[.int .u8 x.op,.int .i64 x.typ,.int .i64 x.a,.int .i64 x.b,.int .i64 x.n,va,vf] 31)):=(alloc_below _ _).alloc (by simp) _
 have HC1:=hid (HC.out _ hb0)
 have HT1:=hid (fun wx=>told_calls nt nr nf nb y.typ x.typ h1.1 h1.2 wx)
 have HT2:=hid (fun wx=>told_calls nt nr nf nb y.a x.a h2.1 h2.2 wx)
 have HT3:=hid (fun wx=>told_calls nt nr nf nb y.b x.b h3.1 h3.2 wx)
 have HT4:=hid (fun wx=>told64_calls nt nr nf nb y.n x.n h4.1 h4.2 wx)
 have HLA:=hid (fun wx (hx:Below w.heap.size w wx)=>ShE.below_calls nr va x.args wx (ha.below hx))
 have HLF:=hid (fun wx (hx:Below w.heap.size w wx)=>ShE.below_calls nb vf x.frm wx (hf.below hx))
 have hper:y.per=0∨y.per=1:=by omega
 obtain ⟨aa,ac,rfl,hla⟩:=ints_slice ha
 obtain ⟨fa,fc,rfl,hlf⟩:=ints_slice hf
 have HWR:Hid (IntKind.i64.wrap (y.per * x.args.length)=y.per * x.args.length):=by
  show _=_
  rw [IntWalk.i64_in _ (by rcases hper with e | e<;>rw [e]<;>omega)]
 generalize toldV (limL nt nr nf nb) y.typ x.typ=z1 at *
 generalize toldV (limL nt nr nf nb) y.a x.a=z2 at *
 generalize toldV (limL nt nr nf nb) y.b x.b=z3 at *
 generalize toldV (limL nt nr nf nb) y.n x.n=z4 at *
 generalize lowB nr x.args=la at *
 generalize lowB nb x.frm=lf at *
 clear HC h1 h2 h3 h4 h5 ha hf hper
 have HB0:=hid hb0
 obtain ⟨xo,xt,xa,xb,xn,xl,xm⟩:=x
 obtain ⟨yt,ya,yb,yn,yl,ym,yp⟩:=y
 simp only [hasV,limV] at *
 clear hb0
 generalize xl.length=nl at *
 generalize xm.length=nm at *
 obtain ⟨q1,hq1⟩:∃ q:Int,q=min yl (nl:Int):=⟨_,rfl⟩
 obtain ⟨q2,hq2⟩:∃ q:Int,q=max ym (nl:Int):=⟨_,rfl⟩
 rw [← hq1,← hq2]
 generalize hans:(if (⟨yt,ya,yb,yn,yl,ym,yp⟩:Has)=has0∨(⟨z1,z2,z3,z4,q1,q2,yp⟩:Has)≠⟨yt,ya,yb,yn,yl,ym,yp⟩∨(nm:Int)≠yp * nl then false else la && lf)=ans
 have HANS:=hid hans
 have HQ1:=hid hq1
 have HQ2:=hid hq2
 clear hans hq1 hq2
 go_enter Tryz.func114,Tryz.ntmps114
 go_wp2_with fail
 refine HC1.out.mono ?_
 rintro e w1 ⟨rfl,hb1⟩
 obtain ⟨f1,_,s1,k1⟩:=copyF (alloc_old (alloc_new _ _) _) hb1 (by simp only [World.size_alloc];omega)
 obtain ⟨f2,_,s2,k2⟩:=copyF (alloc_new _ _) hb1 (by simp only [World.size_alloc];omega)
 simp only [World.size_alloc] at f2 s2 k2
 have HBE:=hid (HB0.out.trans (hb1.mono HB0.out.size))
 clear HC1 hb1 HB0
 have HK1:=hid k1
 have HK2:=hid k2
 clear f1 f2 k1 k2
 go_upto_region 2 with fail
 obtain ⟨w2,hw2⟩:∃ w2:World,w2=w1.alloc (.cells #[.int .u8 yt,.int .u8 ya,.int .u8 yb,.int .u8 yn,.int .i64 yl,.int .i64 ym,.int .i64 yp] 89):=⟨_,rfl⟩
 rw [← hw2]
 have HB2:Hid (Below w.heap.size w w2):=by show Below _ _ _;rw [hw2];exact HBE.out.alloc HBE.out.size _
 have HL1:Hid (w2.heap[w.heap.size]?=some (.cells #[.int .i64 1,.int .i64 0,.int .i64 nt,.int .i64 nr,.int .i64 nf,.int .i64 nb,.int .i64 8] 186 (0,0))):=by show _=_;rw [hw2];exact alloc_old HK1.out _
 have HL2:Hid (w2.heap[w.heap.size+1]?=some (.cells #[.int .u8 xo,.int .i64 xt,.int .i64 xa,.int .i64 xb,.int .i64 xn,.slice aa nl ac,.slice fa nm fc] 31 (0,0))):=by show _=_;rw [hw2];exact alloc_old HK2.out _
 have HL3:Hid (w2.heap[w1.heap.size]?=some (.cells #[.int .u8 yt,.int .u8 ya,.int .u8 yb,.int .u8 yn,.int .i64 yl,.int .i64 ym,.int .i64 yp] 89 (0,0))):=by show _=_;rw [hw2];exact alloc_new _ _
 have HLA2:=hid (fun wx (hx:Below w2.heap.size w2 wx)=>HLA.out wx (HB2.out.trans (hx.mono HB2.out.size)))
 have HLF2:=hid (fun wx (hx:Below w.heap.size w wx)=>HLF.out wx hx)
 have HTR:=hid (fun wx (hx:Below w2.heap.size w2 wx)=>HB2.out.trans (hx.mono HB2.out.size))
 clear hw2 HK1 HK2 HBE s1 s2 HLA HLF
 generalize hbs:w.heap.size=bs at *
 have HBS:=hid hbs
 clear hbs
 generalize w1.heap.size=bw at *
 obtain ⟨⟨a0,a1,a2,a3,a4,a5,a6⟩,_,s1⟩:=seven HL1.out
 obtain ⟨⟨b0,b1,b2,b3,b4,b5,b6⟩,_,s2⟩:=seven HL2.out
 obtain ⟨⟨c0,c1,c2,c3,c4,c5,c6⟩,_,s3⟩:=seven HL3.out
 go_cut [6] (fun p wc=>∃ n6:Nat,p=.pointer (some ⟨n6,0,none⟩)∧wc.heap[n6]?=some (.cells #[.int .u8 z1,.int .u8 z2,.int .u8 z3,.int .u8 z4,.int .i64 q1,.int .i64 q2,.int .i64 yp] 89 (0,0))∧Below w2.heap.size w2 wc)
 case first =>
  have HOS:=hid (old_start w2)
  generalize hn2:w2.heap.size=n2 at *
  have HN2:=hid hn2
  clear hn2
  have hsz3:n2≤w2.heap.size:=Nat.le_of_eq HN2.out.symm
  have HOS2:Hid (n2≤w2.heap.size∧∀ b o,b < n2→w2.cell? ⟨b,o,none⟩=w2.cell? ⟨b,o,none⟩):=⟨hsz3,fun _ _ _=>rfl⟩
  have hsz2:n2≤w2.drew.heap.size:=by rw [← HN2.out];exact Nat.le_refl _
  have hmin:(if (nl:Int) < yl then (nl:Int) else yl)=q1:=by rw [HQ1.out];split<;>omega
  have hmax:(if ym < (nl:Int) then (nl:Int) else ym)=q2:=by rw [HQ2.out];split<;>omega
  refine wp_region_noPanic ?_
  refine wp_region_held_drew (S:=(fun w'=>n2≤w'.heap.size∧∀ b o,b < n2→w'.cell? ⟨b,o,none⟩=w2.cell? ⟨b,o,none⟩)) (by kernel_rfl) ?_ (fun hHeld=>?_)
  ·(try dsimp only)
   (first | with_reducible exact HOS.out | with_reducible exact old_drew (old_alloc HOS2.out) | with_reducible exact old_alloc (by assumption) | with_reducible exact old_call (by assumption) (by assumption) | with_reducible exact old_alloc (old_call hb6 (old_call hb5 (old_call hb4 (old_call hb3 HOS.out)))) | with_reducible exact old_set hn6 (old_set hn6 (old_set hn6 (old_set hn6 (old_set hn6 (old_set hn6 (old_set hn6 (by assumption))))))))
  refine zH 0 rfl ?_
  refine zH 1 rfl ?_
  refine zH 2 rfl ?_
  refine zH 3 rfl ?_
  refine zH 4 rfl ?_
  refine zH 6 rfl ?_
  refine zH 7 rfl ?_
  refine zH 8 rfl ?_
  refine zH 9 rfl ?_
  refine zH 10 rfl ?_
  refine zH 12 rfl ?_
  refine zH 13 rfl ?_
  refine zH 14 rfl ?_
  refine zH 15 rfl ?_
  refine zH 16 rfl ?_
  refine zH 18 rfl ?_
  refine zH 19 rfl ?_
  refine zH 20 rfl ?_
  refine zH 21 rfl ?_
  refine zH 22 rfl ?_
  refine zH 24 rfl ?_
  refine zH 25 rfl ?_
  refine zH 26 rfl ?_
  refine zH 27 rfl ?_
  refine zH 28 rfl ?_
  refine zH 29 rfl ?_
  refine zH 30 rfl ?_
  refine zH 31 rfl ?_
  refine zH 32 rfl ?_
  refine zH 33 rfl ?_
  refine zH 34 rfl ?_
  refine zH 35 rfl ?_
  refine zH 36 rfl ?_
  refine zH 37 rfl ?_
  try simp only [Act.put,List.setIfInBounds_toArray,List.set_cons_zero,List.set_cons_succ]
  refine wpAnyH_ready (rs:=[5,39]) (by kernel_rfl) (by simp) ?_
  refine AllReadyH.cons (o:=⟨_,_,_,_,_,_⟩) rfl (fun K hK=>?_) ?_
  ·go_simp
   (go_at_call 157;(with_reducible refine (HT1.out _).mono ?_);rintro e w3 ⟨rfl,hb3⟩;(first | (with_reducible (have B3:=below_go (Below.refl n2 w2).drew hb3 hsz2)) | (with_reducible (have B3:=below_go ((Below.refl n2 w2).alloc hsz3 _).drew hb3 (Nat.le_trans hsz3 (alloc_below _ _).size))));have s3:=below_size hsz3 B3)
   refine hK.out _ _ ?_ (fun hHeld=>?_)
   ·(try dsimp only)
    (first | with_reducible exact HOS.out | with_reducible exact old_drew (old_alloc HOS2.out) | with_reducible exact old_alloc (by assumption) | with_reducible exact old_call (by assumption) (by assumption) | with_reducible exact old_alloc (old_call hb6 (old_call hb5 (old_call hb4 (old_call hb3 HOS.out)))) | with_reducible exact old_set hn6 (old_set hn6 (old_set hn6 (old_set hn6 (old_set hn6 (old_set hn6 (old_set hn6 (by assumption))))))))
   clear hK K
   try simp only [Act.put,List.setIfInBounds_toArray,List.set_cons_zero,List.set_cons_succ]
   refine wpAnyH_ready (rs:=[11,39]) (by kernel_rfl) (by simp) ?_
   refine AllReadyH.cons (o:=⟨_,_,_,_,_,_⟩) rfl (fun K hK=>?_) ?_
   ·go_simp
    (go_at_call 157;(with_reducible refine (HT2.out _).mono ?_);rintro e w4 ⟨rfl,hb4⟩;(first | (with_reducible (have B4:=below_go B3 hb4 s3)) | (with_reducible (have B4:=below_go (B3.alloc s3 _) hb4 (Nat.le_trans s3 (alloc_below _ _).size))));have s4:=below_size hsz3 B4)
    refine hK.out _ _ ?_ (fun hHeld=>?_)
    ·(try dsimp only)
     (first | with_reducible exact HOS.out | with_reducible exact old_drew (old_alloc HOS2.out) | with_reducible exact old_alloc (by assumption) | with_reducible exact old_call (by assumption) (by assumption) | with_reducible exact old_alloc (old_call hb6 (old_call hb5 (old_call hb4 (old_call hb3 HOS.out)))) | with_reducible exact old_set hn6 (old_set hn6 (old_set hn6 (old_set hn6 (old_set hn6 (old_set hn6 (old_set hn6 (by assumption))))))))
    clear hK K
    try simp only [Act.put,List.setIfInBounds_toArray,List.set_cons_zero,List.set_cons_succ]
    refine wpAnyH_ready (rs:=[17,39]) (by kernel_rfl) (by simp) ?_
    refine AllReadyH.cons (o:=⟨_,_,_,_,_,_⟩) rfl (fun K hK=>?_) ?_
    ·go_simp
     (go_at_call 157;(with_reducible refine (HT3.out _).mono ?_);rintro e w5 ⟨rfl,hb5⟩;(first | (with_reducible (have B5:=below_go B4 hb5 s4)) | (with_reducible (have B5:=below_go (B4.alloc s4 _) hb5 (Nat.le_trans s4 (alloc_below _ _).size))));have s5:=below_size hsz3 B5)
     refine hK.out _ _ ?_ (fun hHeld=>?_)
     ·(try dsimp only)
      (first | with_reducible exact HOS.out | with_reducible exact old_drew (old_alloc HOS2.out) | with_reducible exact old_alloc (by assumption) | with_reducible exact old_call (by assumption) (by assumption) | with_reducible exact old_alloc (old_call hb6 (old_call hb5 (old_call hb4 (old_call hb3 HOS.out)))) | with_reducible exact old_set hn6 (old_set hn6 (old_set hn6 (old_set hn6 (old_set hn6 (old_set hn6 (old_set hn6 (by assumption))))))))
     clear hK K
     try simp only [Act.put,List.setIfInBounds_toArray,List.set_cons_zero,List.set_cons_succ]
     refine wpAnyH_ready (rs:=[23,39]) (by kernel_rfl) (by simp) ?_
     refine AllReadyH.cons (o:=⟨_,_,_,_,_,_⟩) rfl (fun K hK=>?_) ?_
     ·go_simp
      (go_at_call 159;(with_reducible refine (HT4.out _).mono ?_);rintro e w6 ⟨rfl,hb6⟩;(first | (with_reducible (have B6:=below_go B5 hb6 s5)) | (with_reducible (have B6:=below_go (B5.alloc s5 _) hb6 (Nat.le_trans s5 (alloc_below _ _).size))));have s6:=below_size hsz3 B6;(first | (with_reducible (have hz:=keepBlk hb6 (alloc_new _ _);have hn6:=s5;obtain ⟨⟨e0,e1,e2,e3,e4,e5,e6⟩,⟨g0,g1,g2,g3,g4,g5,g6⟩,g7⟩:=seven hz)) | (with_reducible (have hz:=keepBlk hb6 (keepBlk hb5 (alloc_new _ _));have hn6:=s4;obtain ⟨⟨e0,e1,e2,e3,e4,e5,e6⟩,⟨g0,g1,g2,g3,g4,g5,g6⟩,g7⟩:=seven hz)) | (with_reducible (have hz:=keepBlk hb6 (keepBlk hb5 (keepBlk hb4 (alloc_new _ _)));have hn6:=s3;obtain ⟨⟨e0,e1,e2,e3,e4,e5,e6⟩,⟨g0,g1,g2,g3,g4,g5,g6⟩,g7⟩:=seven hz)) | (with_reducible (have hz:=keepBlk hb6 (keepBlk hb5 (keepBlk hb4 (keepBlk hb3 (alloc_new_drew _ _))));have hn6:=hsz3;obtain ⟨⟨e0,e1,e2,e3,e4,e5,e6⟩,⟨g0,g1,g2,g3,g4,g5,g6⟩,g7⟩:=seven hz)) | skip))
      refine hK.out _ _ ?_ (fun hHeld=>?_)
      ·(try dsimp only)
       (first | with_reducible exact HOS.out | with_reducible exact old_drew (old_alloc HOS2.out) | with_reducible exact old_alloc (by assumption) | with_reducible exact old_call (by assumption) (by assumption) | with_reducible exact old_alloc (old_call hb6 (old_call hb5 (old_call hb4 (old_call hb3 HOS.out)))) | with_reducible exact old_set hn6 (old_set hn6 (old_set hn6 (old_set hn6 (old_set hn6 (old_set hn6 (old_set hn6 (by assumption))))))))
      clear hK K
      refine zH 38 rfl ?_
      try simp only [Act.put,List.setIfInBounds_toArray,List.set_cons_zero,List.set_cons_succ]
      refine wpAnyH_ready (rs:=[39]) (by kernel_rfl) (by simp) ?_
      refine AllReadyH.cons (o:=⟨_,_,_,_,_,_⟩) rfl (fun K hK=>?_) ?_
      ·go_simp
       refine hK.out _ _ ?_ (fun hHeld=>?_)
       ·(try dsimp only)
        (first | with_reducible exact HOS.out | with_reducible exact old_drew (old_alloc HOS2.out) | with_reducible exact old_alloc (by assumption) | with_reducible exact old_call (by assumption) (by assumption) | with_reducible exact old_alloc (old_call hb6 (old_call hb5 (old_call hb4 (old_call hb3 HOS.out)))) | with_reducible exact old_set hn6 (old_set hn6 (old_set hn6 (old_set hn6 (old_set hn6 (old_set hn6 (old_set hn6 (by assumption))))))))
       clear hK K
       try simp only [Act.put,List.setIfInBounds_toArray,List.set_cons_zero,List.set_cons_succ]
       refine wpAnyH_ready (rs:=[40]) (by kernel_rfl) (by simp) ?_
       refine AllReadyH.cons (o:=⟨_,_,_,_,_,_⟩) rfl (fun K hK=>?_) ?_
       ·go_simp
        refine hK.out _ _ ?_ (fun hHeld=>?_)
        ·(try dsimp only)
         (first | with_reducible exact HOS.out | with_reducible exact old_drew (old_alloc HOS2.out) | with_reducible exact old_alloc (by assumption) | with_reducible exact old_call (by assumption) (by assumption) | with_reducible exact old_alloc (old_call hb6 (old_call hb5 (old_call hb4 (old_call hb3 HOS.out)))) | with_reducible exact old_set hn6 (old_set hn6 (old_set hn6 (old_set hn6 (old_set hn6 (old_set hn6 (old_set hn6 (by assumption))))))))
        clear hK K
        try simp only [Act.put,List.setIfInBounds_toArray,List.set_cons_zero,List.set_cons_succ]
        refine wpAnyH_done (by kernel_rfl) ?_ _
        refine NoPanic.normal ?_
        go_wp2_with fail
        go_meet
        case rel =>
         refine ⟨_,rfl,?_,?_⟩
         ·first | exact alloc_new w6 _ | (rw [HQ1.out,HQ2.out];exact alloc_new w6 _)
         ·exact B6.alloc s6 _
       exact AllReadyH.nil
      exact AllReadyH.nil
     refine AllReadyH.cons (o:=⟨_,_,_,_,_,_⟩) rfl (fun K hK=>?_) ?_
     ·go_simp
      refine hK.out _ _ ?_ (fun hHeld=>?_)
      ·(try dsimp only)
       (first | with_reducible exact HOS.out | with_reducible exact old_drew (old_alloc HOS2.out) | with_reducible exact old_alloc (by assumption) | with_reducible exact old_call (by assumption) (by assumption) | with_reducible exact old_alloc (old_call hb6 (old_call hb5 (old_call hb4 (old_call hb3 HOS.out)))) | with_reducible exact old_set hn6 (old_set hn6 (old_set hn6 (old_set hn6 (old_set hn6 (old_set hn6 (old_set hn6 (by assumption))))))))
      clear hK K
      try simp only [Act.put,List.setIfInBounds_toArray,List.set_cons_zero,List.set_cons_succ]
      refine wpAnyH_ready (rs:=[23]) (by kernel_rfl) (by simp) ?_
      refine AllReadyH.cons (o:=⟨_,_,_,_,_,_⟩) rfl (fun K hK=>?_) ?_
      ·go_simp
       (go_at_call 159;(with_reducible refine (HT4.out _).mono ?_);rintro e w6 ⟨rfl,hb6⟩;(first | (with_reducible (have B6:=below_go B5 hb6 s5)) | (with_reducible (have B6:=below_go (B5.alloc s5 _) hb6 (Nat.le_trans s5 (alloc_below _ _).size))));have s6:=below_size hsz3 B6;(first | (with_reducible (have hz:=keepBlk hb6 (alloc_new _ _);have hn6:=s5;obtain ⟨⟨e0,e1,e2,e3,e4,e5,e6⟩,⟨g0,g1,g2,g3,g4,g5,g6⟩,g7⟩:=seven hz)) | (with_reducible (have hz:=keepBlk hb6 (keepBlk hb5 (alloc_new _ _));have hn6:=s4;obtain ⟨⟨e0,e1,e2,e3,e4,e5,e6⟩,⟨g0,g1,g2,g3,g4,g5,g6⟩,g7⟩:=seven hz)) | (with_reducible (have hz:=keepBlk hb6 (keepBlk hb5 (keepBlk hb4 (alloc_new _ _)));have hn6:=s3;obtain ⟨⟨e0,e1,e2,e3,e4,e5,e6⟩,⟨g0,g1,g2,g3,g4,g5,g6⟩,g7⟩:=seven hz)) | (with_reducible (have hz:=keepBlk hb6 (keepBlk hb5 (keepBlk hb4 (keepBlk hb3 (alloc_new_drew _ _))));have hn6:=hsz3;obtain ⟨⟨e0,e1,e2,e3,e4,e5,e6⟩,⟨g0,g1,g2,g3,g4,g5,g6⟩,g7⟩:=seven hz)) | skip))
       refine hK.out _ _ ?_ (fun hHeld=>?_)
       ·(try dsimp only)
        (first | with_reducible exact HOS.out | with_reducible exact old_drew (old_alloc HOS2.out) | with_reducible exact old_alloc (by assumption) | with_reducible exact old_call (by assumption) (by assumption) | with_reducible exact old_alloc (old_call hb6 (old_call hb5 (old_call hb4 (old_call hb3 HOS.out)))) | with_reducible exact old_set hn6 (old_set hn6 (old_set hn6 (old_set hn6 (old_set hn6 (old_set hn6 (old_set hn6 (by assumption))))))))
       clear hK K
       refine zH 38 rfl ?_
       try simp only [Act.put,List.setIfInBounds_toArray,List.set_cons_zero,List.set_cons_succ]
       refine wpAnyH_ready (rs:=[40]) (by kernel_rfl) (by simp) ?_
       refine AllReadyH.cons (o:=⟨_,_,_,_,_,_⟩) rfl (fun K hK=>?_) ?_
       ·go_simp
        refine hK.out _ _ ?_ (fun hHeld=>?_)
        ·(try dsimp only)
         (first | with_reducible exact HOS.out | with_reducible exact old_drew (old_alloc HOS2.out) | with_reducible exact old_alloc (by assumption) | with_reducible exact old_call (by assumption) (by assumption) | with_reducible exact old_alloc (old_call hb6 (old_call hb5 (old_call hb4 (old_call hb3 HOS.out)))) | with_reducible exact old_set hn6 (old_set hn6 (old_set hn6 (old_set hn6 (old_set hn6 (old_set hn6 (old_set hn6 (by assumption))))))))
        clear hK K
        try simp only [Act.put,List.setIfInBounds_toArray,List.set_cons_zero,List.set_cons_succ]
        refine wpAnyH_done (by kernel_rfl) ?_ _
        refine NoPanic.normal ?_
        go_wp2_with fail
        go_meet
        case rel =>
         refine ⟨_,rfl,?_,?_⟩
         ·first | exact set7 _ _ _ _ _ _ _ hz | (rw [HQ1.out,HQ2.out];exact set7 _ _ _ _ _ _ _ hz)
         ·exact below7 _ _ _ _ _ _ _ B6 hn6
       exact AllReadyH.nil
      exact AllReadyH.nil
     exact AllReadyH.nil
    refine AllReadyH.cons (o:=⟨_,_,_,_,_,_⟩) rfl (fun K hK=>?_) ?_
    ·go_simp
     refine hK.out _ _ ?_ (fun hHeld=>?_)
     ·(try dsimp only)
      (first | with_reducible exact HOS.out | with_reducible exact old_drew (old_alloc HOS2.out) | with_reducible exact old_alloc (by assumption) | with_reducible exact old_call (by assumption) (by assumption) | with_reducible exact old_alloc (old_call hb6 (old_call hb5 (old_call hb4 (old_call hb3 HOS.out)))) | with_reducible exact old_set hn6 (old_set hn6 (old_set hn6 (old_set hn6 (old_set hn6 (old_set hn6 (old_set hn6 (by assumption))))))))
     clear hK K
     try simp only [Act.put,List.setIfInBounds_toArray,List.set_cons_zero,List.set_cons_succ]
     refine wpAnyH_ready (rs:=[17]) (by kernel_rfl) (by simp) ?_
     refine AllReadyH.cons (o:=⟨_,_,_,_,_,_⟩) rfl (fun K hK=>?_) ?_
     ·go_simp
      (go_at_call 157;(with_reducible refine (HT3.out _).mono ?_);rintro e w5 ⟨rfl,hb5⟩;(first | (with_reducible (have B5:=below_go B4 hb5 s4)) | (with_reducible (have B5:=below_go (B4.alloc s4 _) hb5 (Nat.le_trans s4 (alloc_below _ _).size))));have s5:=below_size hsz3 B5)
      refine hK.out _ _ ?_ (fun hHeld=>?_)
      ·(try dsimp only)
       (first | with_reducible exact HOS.out | with_reducible exact old_drew (old_alloc HOS2.out) | with_reducible exact old_alloc (by assumption) | with_reducible exact old_call (by assumption) (by assumption) | with_reducible exact old_alloc (old_call hb6 (old_call hb5 (old_call hb4 (old_call hb3 HOS.out)))) | with_reducible exact old_set hn6 (old_set hn6 (old_set hn6 (old_set hn6 (old_set hn6 (old_set hn6 (old_set hn6 (by assumption))))))))
      clear hK K
      try simp only [Act.put,List.setIfInBounds_toArray,List.set_cons_zero,List.set_cons_succ]
      refine wpAnyH_ready (rs:=[23]) (by kernel_rfl) (by simp) ?_
      refine AllReadyH.cons (o:=⟨_,_,_,_,_,_⟩) rfl (fun K hK=>?_) ?_
      ·go_simp
       (go_at_call 159;(with_reducible refine (HT4.out _).mono ?_);rintro e w6 ⟨rfl,hb6⟩;(first | (with_reducible (have B6:=below_go B5 hb6 s5)) | (with_reducible (have B6:=below_go (B5.alloc s5 _) hb6 (Nat.le_trans s5 (alloc_below _ _).size))));have s6:=below_size hsz3 B6;(first | (with_reducible (have hz:=keepBlk hb6 (alloc_new _ _);have hn6:=s5;obtain ⟨⟨e0,e1,e2,e3,e4,e5,e6⟩,⟨g0,g1,g2,g3,g4,g5,g6⟩,g7⟩:=seven hz)) | (with_reducible (have hz:=keepBlk hb6 (keepBlk hb5 (alloc_new _ _));have hn6:=s4;obtain ⟨⟨e0,e1,e2,e3,e4,e5,e6⟩,⟨g0,g1,g2,g3,g4,g5,g6⟩,g7⟩:=seven hz)) | (with_reducible (have hz:=keepBlk hb6 (keepBlk hb5 (keepBlk hb4 (alloc_new _ _)));have hn6:=s3;obtain ⟨⟨e0,e1,e2,e3,e4,e5,e6⟩,⟨g0,g1,g2,g3,g4,g5,g6⟩,g7⟩:=seven hz)) | (with_reducible (have hz:=keepBlk hb6 (keepBlk hb5 (keepBlk hb4 (keepBlk hb3 (alloc_new_drew _ _))));have hn6:=hsz3;obtain ⟨⟨e0,e1,e2,e3,e4,e5,e6⟩,⟨g0,g1,g2,g3,g4,g5,g6⟩,g7⟩:=seven hz)) | skip))
       refine hK.out _ _ ?_ (fun hHeld=>?_)
       ·(try dsimp only)
        (first | with_reducible exact HOS.out | with_reducible exact old_drew (old_alloc HOS2.out) | with_reducible exact old_alloc (by assumption) | with_reducible exact old_call (by assumption) (by assumption) | with_reducible exact old_alloc (old_call hb6 (old_call hb5 (old_call hb4 (old_call hb3 HOS.out)))) | with_reducible exact old_set hn6 (old_set hn6 (old_set hn6 (old_set hn6 (old_set hn6 (old_set hn6 (old_set hn6 (by assumption))))))))
       clear hK K
       refine zH 38 rfl ?_
       try simp only [Act.put,List.setIfInBounds_toArray,List.set_cons_zero,List.set_cons_succ]
       refine wpAnyH_ready (rs:=[40]) (by kernel_rfl) (by simp) ?_
       refine AllReadyH.cons (o:=⟨_,_,_,_,_,_⟩) rfl (fun K hK=>?_) ?_
       ·go_simp
        refine hK.out _ _ ?_ (fun hHeld=>?_)
        ·(try dsimp only)
         (first | with_reducible exact HOS.out | with_reducible exact old_drew (old_alloc HOS2.out) | with_reducible exact old_alloc (by assumption) | with_reducible exact old_call (by assumption) (by assumption) | with_reducible exact old_alloc (old_call hb6 (old_call hb5 (old_call hb4 (old_call hb3 HOS.out)))) | with_reducible exact old_set hn6 (old_set hn6 (old_set hn6 (old_set hn6 (old_set hn6 (old_set hn6 (old_set hn6 (by assumption))))))))
        clear hK K
        try simp only [Act.put,List.setIfInBounds_toArray,List.set_cons_zero,List.set_cons_succ]
        refine wpAnyH_done (by kernel_rfl) ?_ _
        refine NoPanic.normal ?_
        go_wp2_with fail
        go_meet
        case rel =>
         refine ⟨_,rfl,?_,?_⟩
         ·first | exact set7 _ _ _ _ _ _ _ hz | (rw [HQ1.out,HQ2.out];exact set7 _ _ _ _ _ _ _ hz)
         ·exact below7 _ _ _ _ _ _ _ B6 hn6
       exact AllReadyH.nil
      exact AllReadyH.nil
     exact AllReadyH.nil
    exact AllReadyH.nil
   refine AllReadyH.cons (o:=⟨_,_,_,_,_,_⟩) rfl (fun K hK=>?_) ?_
   ·go_simp
    refine hK.out _ _ ?_ (fun hHeld=>?_)
    ·(try dsimp only)
     (first | with_reducible exact HOS.out | with_reducible exact old_drew (old_alloc HOS2.out) | with_reducible exact old_alloc (by assumption) | with_reducible exact old_call (by assumption) (by assumption) | with_reducible exact old_alloc (old_call hb6 (old_call hb5 (old_call hb4 (old_call hb3 HOS.out)))) | with_reducible exact old_set hn6 (old_set hn6 (old_set hn6 (old_set hn6 (old_set hn6 (old_set hn6 (old_set hn6 (by assumption))))))))
    clear hK K
    try simp only [Act.put,List.setIfInBounds_toArray,List.set_cons_zero,List.set_cons_succ]
    refine wpAnyH_ready (rs:=[11]) (by kernel_rfl) (by simp) ?_
    refine AllReadyH.cons (o:=⟨_,_,_,_,_,_⟩) rfl (fun K hK=>?_) ?_
    ·go_simp
     (go_at_call 157;(with_reducible refine (HT2.out _).mono ?_);rintro e w4 ⟨rfl,hb4⟩;(first | (with_reducible (have B4:=below_go B3 hb4 s3)) | (with_reducible (have B4:=below_go (B3.alloc s3 _) hb4 (Nat.le_trans s3 (alloc_below _ _).size))));have s4:=below_size hsz3 B4)
     refine hK.out _ _ ?_ (fun hHeld=>?_)
     ·(try dsimp only)
      (first | with_reducible exact HOS.out | with_reducible exact old_drew (old_alloc HOS2.out) | with_reducible exact old_alloc (by assumption) | with_reducible exact old_call (by assumption) (by assumption) | with_reducible exact old_alloc (old_call hb6 (old_call hb5 (old_call hb4 (old_call hb3 HOS.out)))) | with_reducible exact old_set hn6 (old_set hn6 (old_set hn6 (old_set hn6 (old_set hn6 (old_set hn6 (old_set hn6 (by assumption))))))))
     clear hK K
     try simp only [Act.put,List.setIfInBounds_toArray,List.set_cons_zero,List.set_cons_succ]
     refine wpAnyH_ready (rs:=[17]) (by kernel_rfl) (by simp) ?_
     refine AllReadyH.cons (o:=⟨_,_,_,_,_,_⟩) rfl (fun K hK=>?_) ?_
     ·go_simp
      (go_at_call 157;(with_reducible refine (HT3.out _).mono ?_);rintro e w5 ⟨rfl,hb5⟩;(first | (with_reducible (have B5:=below_go B4 hb5 s4)) | (with_reducible (have B5:=below_go (B4.alloc s4 _) hb5 (Nat.le_trans s4 (alloc_below _ _).size))));have s5:=below_size hsz3 B5)
      refine hK.out _ _ ?_ (fun hHeld=>?_)
      ·(try dsimp only)
       (first | with_reducible exact HOS.out | with_reducible exact old_drew (old_alloc HOS2.out) | with_reducible exact old_alloc (by assumption) | with_reducible exact old_call (by assumption) (by assumption) | with_reducible exact old_alloc (old_call hb6 (old_call hb5 (old_call hb4 (old_call hb3 HOS.out)))) | with_reducible exact old_set hn6 (old_set hn6 (old_set hn6 (old_set hn6 (old_set hn6 (old_set hn6 (old_set hn6 (by assumption))))))))
      clear hK K
      try simp only [Act.put,List.setIfInBounds_toArray,List.set_cons_zero,List.set_cons_succ]
      refine wpAnyH_ready (rs:=[23]) (by kernel_rfl) (by simp) ?_
      refine AllReadyH.cons (o:=⟨_,_,_,_,_,_⟩) rfl (fun K hK=>?_) ?_
      ·go_simp
       (go_at_call 159;(with_reducible refine (HT4.out _).mono ?_);rintro e w6 ⟨rfl,hb6⟩;(first | (with_reducible (have B6:=below_go B5 hb6 s5)) | (with_reducible (have B6:=below_go (B5.alloc s5 _) hb6 (Nat.le_trans s5 (alloc_below _ _).size))));have s6:=below_size hsz3 B6;(first | (with_reducible (have hz:=keepBlk hb6 (alloc_new _ _);have hn6:=s5;obtain ⟨⟨e0,e1,e2,e3,e4,e5,e6⟩,⟨g0,g1,g2,g3,g4,g5,g6⟩,g7⟩:=seven hz)) | (with_reducible (have hz:=keepBlk hb6 (keepBlk hb5 (alloc_new _ _));have hn6:=s4;obtain ⟨⟨e0,e1,e2,e3,e4,e5,e6⟩,⟨g0,g1,g2,g3,g4,g5,g6⟩,g7⟩:=seven hz)) | (with_reducible (have hz:=keepBlk hb6 (keepBlk hb5 (keepBlk hb4 (alloc_new _ _)));have hn6:=s3;obtain ⟨⟨e0,e1,e2,e3,e4,e5,e6⟩,⟨g0,g1,g2,g3,g4,g5,g6⟩,g7⟩:=seven hz)) | (with_reducible (have hz:=keepBlk hb6 (keepBlk hb5 (keepBlk hb4 (keepBlk hb3 (alloc_new_drew _ _))));have hn6:=hsz3;obtain ⟨⟨e0,e1,e2,e3,e4,e5,e6⟩,⟨g0,g1,g2,g3,g4,g5,g6⟩,g7⟩:=seven hz)) | skip))
       refine hK.out _ _ ?_ (fun hHeld=>?_)
       ·(try dsimp only)
        (first | with_reducible exact HOS.out | with_reducible exact old_drew (old_alloc HOS2.out) | with_reducible exact old_alloc (by assumption) | with_reducible exact old_call (by assumption) (by assumption) | with_reducible exact old_alloc (old_call hb6 (old_call hb5 (old_call hb4 (old_call hb3 HOS.out)))) | with_reducible exact old_set hn6 (old_set hn6 (old_set hn6 (old_set hn6 (old_set hn6 (old_set hn6 (old_set hn6 (by assumption))))))))
       clear hK K
       refine zH 38 rfl ?_
       try simp only [Act.put,List.setIfInBounds_toArray,List.set_cons_zero,List.set_cons_succ]
       refine wpAnyH_ready (rs:=[40]) (by kernel_rfl) (by simp) ?_
       refine AllReadyH.cons (o:=⟨_,_,_,_,_,_⟩) rfl (fun K hK=>?_) ?_
       ·go_simp
        refine hK.out _ _ ?_ (fun hHeld=>?_)
        ·(try dsimp only)
         (first | with_reducible exact HOS.out | with_reducible exact old_drew (old_alloc HOS2.out) | with_reducible exact old_alloc (by assumption) | with_reducible exact old_call (by assumption) (by assumption) | with_reducible exact old_alloc (old_call hb6 (old_call hb5 (old_call hb4 (old_call hb3 HOS.out)))) | with_reducible exact old_set hn6 (old_set hn6 (old_set hn6 (old_set hn6 (old_set hn6 (old_set hn6 (old_set hn6 (by assumption))))))))
        clear hK K
        try simp only [Act.put,List.setIfInBounds_toArray,List.set_cons_zero,List.set_cons_succ]
        refine wpAnyH_done (by kernel_rfl) ?_ _
        refine NoPanic.normal ?_
        go_wp2_with fail
        go_meet
        case rel =>
         refine ⟨_,rfl,?_,?_⟩
         ·first | exact set7 _ _ _ _ _ _ _ hz | (rw [HQ1.out,HQ2.out];exact set7 _ _ _ _ _ _ _ hz)
         ·exact below7 _ _ _ _ _ _ _ B6 hn6
       exact AllReadyH.nil
      exact AllReadyH.nil
     exact AllReadyH.nil
    exact AllReadyH.nil
   exact AllReadyH.nil
  refine AllReadyH.cons (o:=⟨_,_,_,_,_,_⟩) rfl (fun K hK=>?_) ?_
  ·go_simp
   refine hK.out _ _ ?_ (fun hHeld=>?_)
   ·(try dsimp only)
    (first | with_reducible exact HOS.out | with_reducible exact old_drew (old_alloc HOS2.out) | with_reducible exact old_alloc (by assumption) | with_reducible exact old_call (by assumption) (by assumption) | with_reducible exact old_alloc (old_call hb6 (old_call hb5 (old_call hb4 (old_call hb3 HOS.out)))) | with_reducible exact old_set hn6 (old_set hn6 (old_set hn6 (old_set hn6 (old_set hn6 (old_set hn6 (old_set hn6 (by assumption))))))))
   clear hK K
   try simp only [Act.put,List.setIfInBounds_toArray,List.set_cons_zero,List.set_cons_succ]
   refine wpAnyH_ready (rs:=[5]) (by kernel_rfl) (by simp) ?_
   refine AllReadyH.cons (o:=⟨_,_,_,_,_,_⟩) rfl (fun K hK=>?_) ?_
   ·go_simp
    (go_at_call 157;(with_reducible refine (HT1.out _).mono ?_);rintro e w3 ⟨rfl,hb3⟩;(first | (with_reducible (have B3:=below_go (Below.refl n2 w2).drew hb3 hsz2)) | (with_reducible (have B3:=below_go ((Below.refl n2 w2).alloc hsz3 _).drew hb3 (Nat.le_trans hsz3 (alloc_below _ _).size))));have s3:=below_size hsz3 B3)
    refine hK.out _ _ ?_ (fun hHeld=>?_)
    ·(try dsimp only)
     (first | with_reducible exact HOS.out | with_reducible exact old_drew (old_alloc HOS2.out) | with_reducible exact old_alloc (by assumption) | with_reducible exact old_call (by assumption) (by assumption) | with_reducible exact old_alloc (old_call hb6 (old_call hb5 (old_call hb4 (old_call hb3 HOS.out)))) | with_reducible exact old_set hn6 (old_set hn6 (old_set hn6 (old_set hn6 (old_set hn6 (old_set hn6 (old_set hn6 (by assumption))))))))
    clear hK K
    try simp only [Act.put,List.setIfInBounds_toArray,List.set_cons_zero,List.set_cons_succ]
    refine wpAnyH_ready (rs:=[11]) (by kernel_rfl) (by simp) ?_
    refine AllReadyH.cons (o:=⟨_,_,_,_,_,_⟩) rfl (fun K hK=>?_) ?_
    ·go_simp
     (go_at_call 157;(with_reducible refine (HT2.out _).mono ?_);rintro e w4 ⟨rfl,hb4⟩;(first | (with_reducible (have B4:=below_go B3 hb4 s3)) | (with_reducible (have B4:=below_go (B3.alloc s3 _) hb4 (Nat.le_trans s3 (alloc_below _ _).size))));have s4:=below_size hsz3 B4)
     refine hK.out _ _ ?_ (fun hHeld=>?_)
     ·(try dsimp only)
      (first | with_reducible exact HOS.out | with_reducible exact old_drew (old_alloc HOS2.out) | with_reducible exact old_alloc (by assumption) | with_reducible exact old_call (by assumption) (by assumption) | with_reducible exact old_alloc (old_call hb6 (old_call hb5 (old_call hb4 (old_call hb3 HOS.out)))) | with_reducible exact old_set hn6 (old_set hn6 (old_set hn6 (old_set hn6 (old_set hn6 (old_set hn6 (old_set hn6 (by assumption))))))))
     clear hK K
     try simp only [Act.put,List.setIfInBounds_toArray,List.set_cons_zero,List.set_cons_succ]
     refine wpAnyH_ready (rs:=[17]) (by kernel_rfl) (by simp) ?_
     refine AllReadyH.cons (o:=⟨_,_,_,_,_,_⟩) rfl (fun K hK=>?_) ?_
     ·go_simp
      (go_at_call 157;(with_reducible refine (HT3.out _).mono ?_);rintro e w5 ⟨rfl,hb5⟩;(first | (with_reducible (have B5:=below_go B4 hb5 s4)) | (with_reducible (have B5:=below_go (B4.alloc s4 _) hb5 (Nat.le_trans s4 (alloc_below _ _).size))));have s5:=below_size hsz3 B5)
      refine hK.out _ _ ?_ (fun hHeld=>?_)
      ·(try dsimp only)
       (first | with_reducible exact HOS.out | with_reducible exact old_drew (old_alloc HOS2.out) | with_reducible exact old_alloc (by assumption) | with_reducible exact old_call (by assumption) (by assumption) | with_reducible exact old_alloc (old_call hb6 (old_call hb5 (old_call hb4 (old_call hb3 HOS.out)))) | with_reducible exact old_set hn6 (old_set hn6 (old_set hn6 (old_set hn6 (old_set hn6 (old_set hn6 (old_set hn6 (by assumption))))))))
      clear hK K
      try simp only [Act.put,List.setIfInBounds_toArray,List.set_cons_zero,List.set_cons_succ]
      refine wpAnyH_ready (rs:=[23]) (by kernel_rfl) (by simp) ?_
      refine AllReadyH.cons (o:=⟨_,_,_,_,_,_⟩) rfl (fun K hK=>?_) ?_
      ·go_simp
       (go_at_call 159;(with_reducible refine (HT4.out _).mono ?_);rintro e w6 ⟨rfl,hb6⟩;(first | (with_reducible (have B6:=below_go B5 hb6 s5)) | (with_reducible (have B6:=below_go (B5.alloc s5 _) hb6 (Nat.le_trans s5 (alloc_below _ _).size))));have s6:=below_size hsz3 B6;(first | (with_reducible (have hz:=keepBlk hb6 (alloc_new _ _);have hn6:=s5;obtain ⟨⟨e0,e1,e2,e3,e4,e5,e6⟩,⟨g0,g1,g2,g3,g4,g5,g6⟩,g7⟩:=seven hz)) | (with_reducible (have hz:=keepBlk hb6 (keepBlk hb5 (alloc_new _ _));have hn6:=s4;obtain ⟨⟨e0,e1,e2,e3,e4,e5,e6⟩,⟨g0,g1,g2,g3,g4,g5,g6⟩,g7⟩:=seven hz)) | (with_reducible (have hz:=keepBlk hb6 (keepBlk hb5 (keepBlk hb4 (alloc_new _ _)));have hn6:=s3;obtain ⟨⟨e0,e1,e2,e3,e4,e5,e6⟩,⟨g0,g1,g2,g3,g4,g5,g6⟩,g7⟩:=seven hz)) | (with_reducible (have hz:=keepBlk hb6 (keepBlk hb5 (keepBlk hb4 (keepBlk hb3 (alloc_new_drew _ _))));have hn6:=hsz3;obtain ⟨⟨e0,e1,e2,e3,e4,e5,e6⟩,⟨g0,g1,g2,g3,g4,g5,g6⟩,g7⟩:=seven hz)) | skip))
       refine hK.out _ _ ?_ (fun hHeld=>?_)
       ·(try dsimp only)
        (first | with_reducible exact HOS.out | with_reducible exact old_drew (old_alloc HOS2.out) | with_reducible exact old_alloc (by assumption) | with_reducible exact old_call (by assumption) (by assumption) | with_reducible exact old_alloc (old_call hb6 (old_call hb5 (old_call hb4 (old_call hb3 HOS.out)))) | with_reducible exact old_set hn6 (old_set hn6 (old_set hn6 (old_set hn6 (old_set hn6 (old_set hn6 (old_set hn6 (by assumption))))))))
       clear hK K
       refine zH 38 rfl ?_
       try simp only [Act.put,List.setIfInBounds_toArray,List.set_cons_zero,List.set_cons_succ]
       refine wpAnyH_ready (rs:=[40]) (by kernel_rfl) (by simp) ?_
       refine AllReadyH.cons (o:=⟨_,_,_,_,_,_⟩) rfl (fun K hK=>?_) ?_
       ·go_simp
        refine hK.out _ _ ?_ (fun hHeld=>?_)
        ·(try dsimp only)
         (first | with_reducible exact HOS.out | with_reducible exact old_drew (old_alloc HOS2.out) | with_reducible exact old_alloc (by assumption) | with_reducible exact old_call (by assumption) (by assumption) | with_reducible exact old_alloc (old_call hb6 (old_call hb5 (old_call hb4 (old_call hb3 HOS.out)))) | with_reducible exact old_set hn6 (old_set hn6 (old_set hn6 (old_set hn6 (old_set hn6 (old_set hn6 (old_set hn6 (by assumption))))))))
        clear hK K
        try simp only [Act.put,List.setIfInBounds_toArray,List.set_cons_zero,List.set_cons_succ]
        refine wpAnyH_done (by kernel_rfl) ?_ _
        refine NoPanic.normal ?_
        go_wp2_with fail
        go_meet
        case rel =>
         refine ⟨_,rfl,?_,?_⟩
         ·first | exact set7 _ _ _ _ _ _ _ hz | (rw [HQ1.out,HQ2.out];exact set7 _ _ _ _ _ _ _ hz)
         ·exact below7 _ _ _ _ _ _ _ B6 hn6
       exact AllReadyH.nil
      exact AllReadyH.nil
     exact AllReadyH.nil
    exact AllReadyH.nil
   exact AllReadyH.nil
  exact AllReadyH.nil
 case rest =>
  clear HT1 HT2 HT3 HT4 HB2 HQ1 HQ2 a0 a1 a2 a3 a4 a5 a6 b0 b1 b2 b3 b4 b5 b6 c0 c1 c2 c3 c4 c5 c6
  obtain ⟨n6,rfl,k6,hbF⟩:=hcut
  obtain ⟨⟨d0,d1,d2,d3,d4,d5,d6⟩,_,r3⟩:=seven k6
  obtain ⟨⟨_,_,_,a3,_,a5,_⟩,_,r1⟩:=seven ((hbF.block _ s1).trans HL1.out)
  obtain ⟨⟨_,_,_,_,_,b5,b6⟩,_,r2⟩:=seven ((hbF.block _ s2).trans HL2.out)
  obtain ⟨⟨c0,c1,c2,c3,c4,c5,c6⟩,_,r4⟩:=seven ((hbF.block _ s3).trans HL3.out)
  have HR1:=hid r1
  clear k6 s1 s2 s3 HL3
  have hq1:=fun w=>eql_hI yt ya yb yn yl ym yp 0 0 0 0 0 0 0 w
  have hq2:=fun w=>neq_hI z1 z2 z3 z4 q1 q2 yp yt ya yb yn yl ym yp w
  simp only [hI_dec] at hq1 hq2
  have hbW:=HTR.out wc hbF
  have HFW:Hid (Below w.heap.size w wc):=by show Below _ _ _;rw [HBS.out];exact hbW
  clear hbW
  have HE0:Hid ((⟨yt,ya,yb,yn,yl,ym,yp⟩:Has)=has0↔(⟨yt,ya,yb,yn,yl,ym,yp⟩:Has)=⟨0,0,0,0,0,0,0⟩):=Iff.rfl
  cases hd1:decide ((⟨yt,ya,yb,yn,yl,ym,yp⟩:Has)=⟨0,0,0,0,0,0,0⟩) with
  | true =>
   rw [hd1] at hq1
   have HA2:Hid (ans=false):=by show _=_;rw [← HANS.out,if_pos (Or.inl (HE0.out.2 (of_decide_eq_true hd1)))]
   clear hd1 HANS HE0
   go_wp2
   go_ret
   exact ⟨by rw [HA2.out];rfl,HFW.out⟩
  | false =>
   rw [hd1] at hq1
   have HN0:=hid (fun h=>of_decide_eq_false hd1 (HE0.out.1 h))
   clear hd1 HE0
   cases hd2:decide ((⟨z1,z2,z3,z4,q1,q2,yp⟩:Has)=⟨yt,ya,yb,yn,yl,ym,yp⟩) with
   | false =>
    rw [hd2] at hq2
    have HA2:Hid (ans=false):=by show _=_;rw [← HANS.out,if_pos (Or.inr (Or.inl (of_decide_eq_false hd2)))]
    clear hd2 HANS HN0
    go_wp2
    go_ret
    exact ⟨by rw [HA2.out];rfl,HFW.out⟩
   | true =>
    rw [hd2] at hq2
    have hwr:=HWR.out
    by_cases hlen:(nm:Int)=yp * nl
    ·have HA2:Hid (ans=(la && lf)):=by
      show _=_
      rw [← HANS.out,if_neg]
      rintro (h | h | h)
      ·exact HN0.out h
      ·exact h (of_decide_eq_true hd2)
      ·exact h hlen
     have e1:((nm:Int) != yp * nl)=false:=by simpa using hlen
     have HCA:=hid (HLA2.out wc hbF)
     have HBF:=hid hbF
     clear hd2 HANS HN0 hlen hbF HLA2
     cases la with
     | false =>
      go_wp2_with fail
      refine HCA.out.mono ?_
      rintro e w7 ⟨rfl,hb7⟩
      have hbe:=HFW.out.trans (hb7.mono HFW.out.size)
      clear HCA hb7
      go_wp2
      go_ret
      exact ⟨by rw [HA2.out];rfl,hbe⟩
     | true =>
      go_wp2_with fail
      refine HCA.out.mono ?_
      rintro e w7 ⟨rfl,hb7⟩
      have hbe:=HFW.out.trans (hb7.mono HFW.out.size)
      have HCF:=hid (HLF2.out w7 (by rw [← HBS.out];exact hbe))
      have g5:=(hb7.cell (p:=⟨bs,5,none⟩) HR1.out).trans a5
      have g6:=(hb7.cell (p:=⟨bs+1,6,none⟩) r2).trans b6
      clear HCA hb7 a3 a5 b5 b6 c0 c1 c2 c3 c4 c5 c6 d0 d1 d2 d3 d4 d5 d6
      go_wp2_with fail
      refine HCF.out.mono ?_
      rintro e w8 ⟨rfl,hb8⟩
      have hbe8:=hbe.trans (hb8.mono hbe.size)
      clear HCF hb8
      go_wp2
      go_ret
      exact ⟨by rw [HA2.out];rfl,hbe8⟩
    ·have HA2:Hid (ans=false):=by show _=_;rw [← HANS.out,if_pos (Or.inr (Or.inr hlen))]
     have e1:((nm:Int) != yp * nl)=true:=by simpa using hlen
     clear hd2 HANS HN0 hlen
     go_wp2
     go_ret
     exact ⟨by rw [HA2.out];rfl,HFW.out⟩
end Go.Proofs.YtpejpnffcepdlaaGreatDoor.ShG
namespace Go.Proofs.YtpejpnffcepdlaaGreatDoor.ShH
open RgZ
open Go.RowKit Go.Lib SetP IntO TyM TyP TyB TyC ShM ShP ShA ShB ShC ShE ShQ ShF ShG

theorem has_small:∀ k:Fin 23,(0≤(hasOf (k.val:Int)).typ∧(hasOf (k.val:Int)).typ≤6)∧(0≤(hasOf (k.val:Int)).a∧(hasOf (k.val:Int)).a≤6)∧(0≤(hasOf (k.val:Int)).b∧(hasOf (k.val:Int)).b≤6)∧(0≤(hasOf (k.val:Int)).n∧(hasOf (k.val:Int)).n≤6)∧(0≤(hasOf (k.val:Int)).per∧(hasOf (k.val:Int)).per≤1):=by decide
theorem may_calls (nt nr nf nb:Int) (x:Ix) (va vf:Value) (w:World) (ht:Tab w) (h0:0≤x.op∧x.op≤255) (ha:IntsAt w va x.args) (hf:IntsAt w vf x.frm) :
  Calls Tryz.prog 114 #[limV nt nr nf nb,ixV x va vf] w (BoolR (mayI (limL nt nr nf nb) x) w):=by
 have hs:(0≤(hasOf x.op).typ∧(hasOf x.op).typ≤6)∧(0≤(hasOf x.op).a∧(hasOf x.op).a≤6)∧(0≤(hasOf x.op).b∧(hasOf x.op).b≤6)∧(0≤(hasOf x.op).n∧(hasOf x.op).n≤6)∧(0≤(hasOf x.op).per∧(hasOf x.op).per≤1):=by
  rcases op_cases h0.1 with ⟨k,hk⟩ | h
  ·rw [hk];exact has_small k
  ·rw [hasOf_over h];decide
 exact may_core nt nr nf nb x (hasOf x.op) va vf w ha hf hs.1 hs.2.1 hs.2.2.1 hs.2.2.2.1 hs.2.2.2.2 (fun wx hb=>row_calls x.op h0.1 h0.2 wx (ht.on hb))
theorem mayEnd_calls (nt nr nf nb:Int) (x:Ex) (w:World) (ht:Tab w) (h0:0≤x.kind∧x.kind≤255) :
  Calls Tryz.prog 111 #[limV nt nr nf nb,exV x] w (BoolR (mayE (limL nt nr nf nb) x) w):=by
 have hs:(0≤(hasEOf x.kind).a∧(hasEOf x.kind).a≤6)∧(0≤(hasEOf x.kind).to∧(hasEOf x.kind).to≤6)∧(0≤(hasEOf x.kind).els∧(hasEOf x.kind).els≤6):=by
  by_cases h:x.kind < 4
  ·have:x.kind=0∨x.kind=1∨x.kind=2∨x.kind=3:=by omega
   rcases this with e | e | e | e<;>rw [e]<;>decide
  ·rw [hasEOf_over (by omega)];decide
 exact mayEnd_core nt nr nf nb x (hasEOf x.kind) w hs.1 hs.2.1 hs.2.2 (fun wx hb=>rowE_calls x.kind h0.1 h0.2 wx (ht.on hb))

def LimAt (cb:Nat) (nt nr nf nb:Int) (w:World):Prop:=w.heap[cb]?=some (.cells #[.int .i64 1,.int .i64 0,.int .i64 nt,.int .i64 nr,.int .i64 nf,.int .i64 nb,.int .i64 8] 186 (0,0))
theorem LimAt.lt {cb:Nat} {nt nr nf nb:Int} {w:World} (h:LimAt cb nt nr nf nb w):cb < w.heap.size:=(Array.getElem?_eq_some_iff.1 h).1
theorem LimAt.below {cb:Nat} {nt nr nf nb:Int} {w w' : World} (h:LimAt cb nt nr nf nb w) (hb:Below w.heap.size w w'):LimAt cb nt nr nf nb w':=(hb.block cb h.lt).trans h

theorem c11_calls (cb:Nat) (nt nr nf nb:Int) (x:Ix) (va vf:Value) (w:World) (hl:LimAt cb nt nr nf nb w) (ht:Tab w) (h0:0≤x.op∧x.op≤255) (ha:IntsAt w va x.args) (hf:IntsAt w vf x.frm) :
  Calls Tryz.prog 113 #[ixV x va vf,.pointer (some ⟨cb,0,none⟩)] w (BoolR (!mayI (limL nt nr nf nb) x) w):=by
 have hb0:=alloc_below w (.cells #[.int .u8 x.op,.int .i64 x.typ,.int .i64 x.a,.int .i64 x.b,.int .i64 x.n,va,vf] 31)
 have HC:=hid (may_calls nt nr nf nb x va vf _ (ht.on hb0) h0 (ha.below hb0) (hf.below hb0))
 obtain ⟨⟨a0,a1,a2,a3,a4,a5,a6⟩,_,s1⟩:=seven hl
 obtain ⟨pa,pc,rfl,_⟩:=ints_slice ha
 obtain ⟨fa,fc,rfl,_⟩:=ints_slice hf
 generalize mayI (limL nt nr nf nb) x=bb at *
 clear hl ht h0 ha hf
 obtain ⟨op,ty,a,b,n,xl,xm⟩:=x
 simp only [limV] at *
 cases bb <;>
 ·go_enter Tryz.func113,Tryz.ntmps113
  go_wp2_with fail
  refine HC.out.mono ?_
  rintro e w1 ⟨rfl,hb1⟩
  have hbe:=hb0.trans (hb1.mono hb0.size)
  clear HC hb1
  go_wp2
  go_ret
  exact ⟨rfl,hbe⟩

theorem all_any {L:List Int} {b:Bx} : (!mayE L b.en || b.ins.any fun x=>!mayI L x)=!mayBl L b:=by
 unfold mayBl
 simp [List.any_eq_not_all_not]
theorem c1_calls (cb:Nat) (nt nr nf nb:Int) (x:Bx) (vi:Value) (w:World) (hl:LimAt cb nt nr nf nb w) (ht:Tab w) (h0:(0≤x.en.kind∧x.en.kind≤255)∧∀ y∈x.ins,0≤y.op∧y.op≤255) (hi:InsAt w vi x.ins) :
  Calls Tryz.prog 110 #[bxV x vi,.pointer (some ⟨cb,0,none⟩)] w (BoolR (!mayBl (limL nt nr nf nb) x) w):=by
 have hb0:=alloc_below w (.cells #[vi,.int .u8 x.en.kind,.int .i64 x.en.a,.int .i64 x.en.to,.int .i64 x.en.els] 38)
 have HE:=hid (mayEnd_calls nt nr nf nb x.en _ (ht.on hb0) h0.1)
 have HC:=hid (fun w1 (hb1:Below w.heap.size w w1)=>containsI_calls 113 (enters_of Tryz.func113 (by kernel_rfl) rfl) cb (fun y=>!mayI (limL nt nr nf nb) y) vi x.ins w1 (hi.below insStays hb1)
  (fun y hy va vf wx hbx ha hf=>c11_calls cb nt nr nf nb y va vf wx ((hl.below hb1).below hbx) ((ht.on hb1).on hbx) (h0.2 y hy) ha hf))
 obtain ⟨⟨a0,a1,a2,a3,a4,a5,a6⟩,_,s1⟩:=seven hl
 obtain ⟨ia,ic,rfl,_⟩:=hi.slice
 rw [← all_any]
 generalize mayE (limL nt nr nf nb) x.en=be at *
 generalize (x.ins.any fun y=>!mayI (limL nt nr nf nb) y)=bi at *
 clear hl ht h0 hi
 obtain ⟨xl,xk,xa,xt,xe⟩:=x
 simp only [limV] at *
 generalize xl.length=nl at *
 cases be with
 | false =>
  clear HC
  go_enter Tryz.func110,Tryz.ntmps110
  go_wp2_with fail
  refine HE.out.mono ?_
  rintro e w1 ⟨rfl,hb1⟩
  have hbe:=hb0.trans (hb1.mono hb0.size)
  clear HE hb1
  go_wp2
  go_ret
  exact ⟨rfl,hbe⟩
 | true =>
  go_enter Tryz.func110,Tryz.ntmps110
  go_wp2_with fail
  refine HE.out.mono ?_
  rintro e w1 ⟨rfl,hb1⟩
  have hbe:=hb0.trans (hb1.mono hb0.size)
  obtain ⟨f1,_,f3,_⟩:=copyF (alloc_new _ _) hb1 (by simp only [World.size_alloc];omega)
  have c0:=f1 0 (by simp)
  simp only [List.getElem_toArray,List.getElem_cons_zero] at c0
  have HC1:=hid (HC.out w1 hbe)
  clear HE hb1 HC f1
  go_wp2_with fail
  refine HC1.out.mono ?_
  rintro e w2 ⟨rfl,hb2⟩
  have hbe2:=hbe.trans (hb2.mono hbe.size)
  clear HC1 hb2
  go_wp2
  go_ret
  exact ⟨rfl,hbe2⟩

theorem size2 (w:World) (a b:Obj):((w.alloc a).alloc b).heap.size=w.heap.size+2:=by simp only [World.size_alloc]
def kindAt (t:List Ty) (s:Int):Int:=((t[s.toNat]?).getD default).kind
def mayF (t:List Ty) (nf:Nat) (f:Fx):Bool :=
 if ¬ (0≤f.sig∧f.sig < t.length) then false
 else if kindAt t f.sig≠3 then false
 else if f.blocks.length < 1∨16 < f.blocks.length∨128 < manyB f.blocks then false
 else f.blocks.all (mayBl (limL t.length ((parOf t f.sig+manyB f.blocks:Nat):Int) nf f.blocks.length))
theorem any_all {L:List Int} {l:List Bx} : (!l.any fun b=>!mayBl L b)=l.all (mayBl L):=by
 simp [List.any_eq_not_all_not]
theorem low_one {m n:Int} : lowB m [n]=decide (0≤n∧n < m):=by simp [lowB]

theorem mayFunc_calls (t:List Ty) (nf:Nat) (f:Fx) (vt vb:Value) (fa:Option Addr) (fcap:Nat) (w:World) (ht:TysAt w vt t) (hb:BlksAt w vb f.blocks) (htab:Tab w) (hsm:manyB f.blocks≤20000) (hpar:∀ x∈t,x.parts.length≤20000)
  (hok:∀ b∈f.blocks,(0≤b.en.kind∧b.en.kind≤255)∧∀ y∈b.ins,0≤y.op∧y.op≤255) :
  Calls Tryz.prog 68 #[.agg #[vt,.slice fa nf fcap],fxV f vb] w (BoolR (mayF t nf f) w):=by
 have hb0:Below w.heap.size w (((w.alloc (.cells #[vt,.slice fa nf fcap] 27)).alloc (.cells #[.int .i64 f.sig,vb] 41)).alloc (.cells #[.int .i64 f.sig] 3)):=((alloc_below _ _).alloc (by simp) _).alloc (by simp only [World.size_alloc];omega) _
 have HB:=hid (ShE.below_calls t.length (.slice (some ⟨w.heap.size+2,0,none⟩) 1 1) [f.sig] (((w.alloc (.cells #[vt,.slice fa nf fcap] 27)).alloc (.cells #[.int .i64 f.sig,vb] 41)).alloc (.cells #[.int .i64 f.sig] 3)) (ints_one (cell_new _ _ _ _ (size2 _ _ _)) (size_new _ _ _ (size2 _ _ _))))
 rw [low_one] at HB
 have HI:=hid (fun wx (hx:Below w.heap.size w wx)=>instructions_calls vb f.blocks wx (hb.below blkStays hx) (by omega))
 have HT:=hid ht
 have HBL:=hid hb
 have HTAB:=hid htab
 have HOK:=hid hok
 obtain ⟨ta,tc,rfl⟩:=ht.slice
 obtain ⟨ba,bc,rfl,hbl⟩:=hb.slice
 have htl:t.length≤9223372036854775807:=by obtain ⟨_,_,_,h,_⟩:=ht;exact h
 have HD:Hid (mayF t nf f=if ¬ (0≤f.sig∧f.sig < t.length) then false
  else if kindAt t f.sig≠3 then false
  else if f.blocks.length < 1∨16 < f.blocks.length∨128 < manyB f.blocks then false
  else f.blocks.all (mayBl (limL t.length ((parOf t f.sig+manyB f.blocks:Nat):Int) nf f.blocks.length))):=rfl
 have HB0:=hid hb0
 clear ht hb htab hok hb0
 by_cases hs:0≤f.sig∧f.sig < t.length
 rotate_left
 ·rw [HD.out,if_pos hs]
  rw [decide_eq_false hs] at HB
  clear HD HI HT HBL HTAB HOK hpar
  obtain ⟨sg,bl⟩:=f
  simp only at *
  generalize t.length=n1 at *
  generalize bl.length=n3 at *
  go_enter Tryz.func68,Tryz.ntmps68
  go_wp2_with fail
  refine HB.out.mono ?_
  rintro e w1 ⟨rfl,hb1⟩
  have hbe:=HB0.out.trans (hb1.mono HB0.out.size)
  clear HB hb1
  go_wp2
  go_ret
  exact ⟨rfl,hbe⟩
 rw [decide_eq_true hs] at HB
 obtain ⟨k,hk⟩:∃ k:Nat,f.sig=k:=⟨f.sig.toNat,by omega⟩
 have hkt:k < t.length:=by omega
 have hkind:kindAt t f.sig=t[k].kind:=by unfold kindAt;rw [hk,Int.toNat_natCast,List.getElem?_eq_getElem hkt];rfl
 rw [if_neg (fun h=>h hs),hkind] at HD
 obtain ⟨tb,off,rfl,hlt,pv,c0,c1,c2,c3,hp⟩:=HT.out.at k hkt
 have hsm2:parOf t f.sig+manyB f.blocks≤1000000:=by
  rw [hk,parOf_at hkt]
  have:=hpar _ (List.getElem_mem hkt)
  omega
 have HR:=hid (fun wx (hx:Below w.heap.size w wx)=>regs_calls t f (.slice (some ⟨tb,off,none⟩) t.length tc) (.slice fa nf fcap) (.slice ba f.blocks.length bc) wx (HT.out.below hx) ⟨_,_,_,rfl⟩ hs.1 hs.2 (HBL.out.below blkStays hx) hsm2)
 have HCF:=hid (fun (cb:Nat) (wx:World) (hx:Below w.heap.size w wx) (hl:LimAt cb t.length ((parOf t f.sig+manyB f.blocks:Nat):Int) nf f.blocks.length wx)=>containsB_calls 110 (enters_of Tryz.func110 (by kernel_rfl) rfl) cb (fun b=>!mayBl (limL t.length ((parOf t f.sig+manyB f.blocks:Nat):Int) nf f.blocks.length) b) (.slice ba f.blocks.length bc) f.blocks wx (HBL.out.below blkStays hx)
  (fun b hb vi wy hy hi=>c1_calls cb _ _ _ _ b vi wy (hl.below hy) ((HTAB.out.on hx).on hy) (HOK.out b hb) hi))
 rw [← any_all] at HD
 generalize mayF t nf f=ans at *
 generalize (f.blocks.any fun b=>!mayBl (limL t.length ((parOf t f.sig+manyB f.blocks:Nat):Int) nf f.blocks.length) b)=anyb at *
 generalize parOf t f.sig+manyB f.blocks=nr at *
 generalize manyB f.blocks=nm at *
 have HKT:Hid (k < t.length):=hkt
 clear HT HBL HTAB HOK hpar hsm2 hp hkind hs c1 c2 c3
 generalize t[k].kind=kk at *
 clear hkt
 obtain ⟨sg,bl⟩:=f
 simp only at *
 subst hk
 have hkl:(k:Int) < t.length:=by have:=HKT.out;omega
 have hk0:(0:Int)≤k:=by omega
 clear HKT
 generalize t.length=n1 at *
 generalize bl.length=n3 at *
 have hcw:=c0
 by_cases hkk:kk=3
 rotate_left
 ·rw [if_pos hkk] at HD
  have e3:(kk != 3)=true:=by simpa using hkk
  clear HI HR HCF hkk
  go_enter Tryz.func68,Tryz.ntmps68
  go_wp2_with fail
  refine HB.out.mono ?_
  rintro e w1 ⟨rfl,hb1⟩
  obtain ⟨f1,_,s1,_⟩:=copyF (alloc_old (alloc_old (alloc_new _ _) _) _) hb1 (by simp only [World.size_alloc];omega)
  obtain ⟨f2,_,s2,_⟩:=copyF (alloc_old (alloc_new _ _) _) hb1 (by simp only [World.size_alloc];omega)
  have hbe:=HB0.out.trans (hb1.mono HB0.out.size)
  have p0:=f1 0 (by simp);have q0:=f2 0 (by simp)
  simp only [List.getElem_toArray,List.getElem_cons_zero,World.size_alloc] at p0 q0
  have d0:=(hbe.cell (p:=⟨tb,off+k * 4,none⟩) hlt).trans c0
  clear HB hb1 f1 f2
  go_wp2
  go_ret
  exact ⟨by rw [HD.out];rfl,hbe⟩
 subst hkk
 rw [if_neg (fun h=>h rfl)] at HD
 by_cases h13:n3 < 1∨16 < n3
 ·have hor:n3 < 1∨16 < n3∨128 < nm:=by omega
  rw [if_pos hor] at HD
  clear HI HR HCF hor
  by_cases hn1:(n3:Int) < 1
  all_goals
   have hn16:(n3:Int) < 1∨(16:Int) < n3:=by omega
   go_enter Tryz.func68,Tryz.ntmps68
   go_wp2_with fail
   refine HB.out.mono ?_
   rintro e w1 ⟨rfl,hb1⟩
   obtain ⟨f1,_,s1,_⟩:=copyF (alloc_old (alloc_old (alloc_new _ _) _) _) hb1 (by simp only [World.size_alloc];omega)
   obtain ⟨f2,_,s2,_⟩:=copyF (alloc_old (alloc_new _ _) _) hb1 (by simp only [World.size_alloc];omega)
   have hbe:=HB0.out.trans (hb1.mono HB0.out.size)
   have p0:=f1 0 (by simp);have q0:=f2 0 (by simp);have q1:=f2 1 (by simp)
   simp only [List.getElem_toArray,List.getElem_cons_succ,List.getElem_cons_zero,World.size_alloc] at p0 q0 q1
   have d0:=(hbe.cell (p:=⟨tb,off+k * 4,none⟩) hlt).trans c0
   clear HB hb1 f1 f2 h13
   have h16:¬ (n3:Int) < 1→(16:Int) < n3:=by omega
   first
   | (go_wp2
      go_ret
      exact ⟨by rw [HD.out];rfl,hbe⟩)
   | (have h17:=h16 hn1
      clear h16 hn16
      go_wp2
      go_ret
      exact ⟨by rw [HD.out];rfl,hbe⟩)
 have g1:¬ (n3:Int) < 1:=by omega
 have g16:¬ (16:Int) < n3:=by omega
 by_cases hm:128 < nm
 ·have hor:n3 < 1∨16 < n3∨128 < nm:=by omega
  rw [if_pos hor] at HD
  have gm:(128:Int) < nm:=by omega
  clear HR HCF hor h13 hm
  go_enter Tryz.func68,Tryz.ntmps68
  go_wp2_with fail
  refine HB.out.mono ?_
  rintro e w1 ⟨rfl,hb1⟩
  obtain ⟨f1,_,s1,_⟩:=copyF (alloc_old (alloc_old (alloc_new _ _) _) _) hb1 (by simp only [World.size_alloc];omega)
  obtain ⟨f2,_,s2,_⟩:=copyF (alloc_old (alloc_new _ _) _) hb1 (by simp only [World.size_alloc];omega)
  have hbe:=HB0.out.trans (hb1.mono HB0.out.size)
  have p0:=f1 0 (by simp);have q0:=f2 0 (by simp);have q1:=f2 1 (by simp)
  simp only [List.getElem_toArray,List.getElem_cons_succ,List.getElem_cons_zero,World.size_alloc] at p0 q0 q1
  have d0:=(hbe.cell (p:=⟨tb,off+k * 4,none⟩) hlt).trans c0
  have HI1:=hid (HI.out w1 hbe)
  clear HB hb1 f1 f2 HI
  go_wp2_with fail
  refine HI1.out.mono ?_
  rintro e w2 ⟨rfl,hb2⟩
  have hbe2:=hbe.trans (hb2.mono hbe.size)
  clear HI1 hb2
  go_wp2
  go_ret
  exact ⟨by rw [HD.out];rfl,hbe2⟩
 have hor:¬ (n3 < 1∨16 < n3∨128 < nm):=by omega
 rw [if_neg hor] at HD
 have gm:¬ (128:Int) < nm:=by omega
 clear hor h13 hm
 go_enter Tryz.func68,Tryz.ntmps68
 go_wp2_with fail
 refine HB.out.mono ?_
 rintro e w1 ⟨rfl,hb1⟩
 obtain ⟨f1,_,s1,k1⟩:=copyF (alloc_old (alloc_old (alloc_new _ _) _) _) hb1 (by simp only [World.size_alloc];omega)
 obtain ⟨f2,_,s2,k2⟩:=copyF (alloc_old (alloc_new _ _) _) hb1 (by simp only [World.size_alloc];omega)
 have hbe:=HB0.out.trans (hb1.mono HB0.out.size)
 have p0:=f1 0 (by simp);have q0:=f2 0 (by simp);have q1:=f2 1 (by simp)
 simp only [List.getElem_toArray,List.getElem_cons_succ,List.getElem_cons_zero,World.size_alloc] at p0 q0 q1 k1 k2
 have HK1:=hid k1
 have HK2:=hid k2
 have d0:=(hbe.cell (p:=⟨tb,off+k * 4,none⟩) hlt).trans c0
 have HI1:=hid (HI.out w1 hbe)
 clear HB hb1 f1 f2 HI k1 k2
 go_wp2_with fail
 all_goals (try (exfalso;omega))
 refine HI1.out.mono ?_
 rintro e w2 ⟨rfl,hb2⟩
 have HL1:=hid (keepBlk hb2 HK1.out)
 have HL2:=hid (keepBlk hb2 HK2.out)
 have hbe2:=hbe.trans (hb2.mono hbe.size)
 have HB2:=hid hbe2
 clear HI1 hb2 HK1 HK2 p0 q0 q1 s1 s2 hbe hbe2 d0 hcw c0
 obtain ⟨r1,_,s1,_⟩:=copyF HL1.out (Below.refl w2.heap.size w2) (Array.getElem?_eq_some_iff.1 HL1.out).1
 obtain ⟨r2,_,s2,_⟩:=copyF HL2.out (Below.refl w2.heap.size w2) (Array.getElem?_eq_some_iff.1 HL2.out).1
 have p0:=r1 0 (by simp);have p1:=r1 1 (by simp);have q0:=r2 0 (by simp);have q1:=r2 1 (by simp)
 simp only [List.getElem_toArray,List.getElem_cons_succ,List.getElem_cons_zero] at p0 p1 q0 q1
 clear r1 r2
 go_upto_region 6 with fail
 all_goals (try (exfalso;omega))
 go_cut [6] (fun p wc=>∃ n6:Nat,p=.pointer (some ⟨n6,0,none⟩)∧LimAt n6 n1 nr nf n3 wc∧Below w2.heap.size w2 wc)
 case first =>
  have HBd:Hid (Below w.heap.size w w2.drew):=HB2.out.drew
  have HBd2:Hid (∀ o,Below w.heap.size w (w2.alloc o).drew):=fun o=>(HB2.out.alloc HB2.out.size o).drew
  have HOS:=hid (old_start w2)
  generalize hn2:w2.heap.size=n2 at *
  have HN2:=hid hn2
  clear hn2
  have hsz3:n2≤w2.heap.size:=Nat.le_of_eq HN2.out.symm
  have HOS2:Hid (n2≤w2.heap.size∧∀ b o,b < n2→w2.cell? ⟨b,o,none⟩=w2.cell? ⟨b,o,none⟩):=⟨hsz3,fun _ _ _=>rfl⟩
  have hsz2:n2≤w2.drew.heap.size:=by rw [← HN2.out];exact Nat.le_refl _
  refine wp_region_noPanic ?_
  refine wp_region_held_drew (S:=(fun w'=>n2≤w'.heap.size∧∀ b o,b < n2→w'.cell? ⟨b,o,none⟩=w2.cell? ⟨b,o,none⟩)) (by kernel_rfl) ?_ (fun hHeld=>?_)
  ·(try dsimp only)
   (first | with_reducible exact HOS.out | with_reducible exact old_drew (old_alloc HOS2.out) | with_reducible exact old_alloc (by assumption) | with_reducible exact old_call (by assumption) (by assumption) | with_reducible exact old_alloc (old_call hb3 HOS.out) | with_reducible exact old_set hn6 (old_set hn6 (old_set hn6 (old_set hn6 (old_set hn6 (old_set hn6 (old_set hn6 (by assumption))))))))
  refine zH 0 rfl ?_
  refine zH 1 rfl ?_
  refine zH 2 rfl ?_
  refine zH 3 rfl ?_
  refine zH 4 rfl ?_
  refine zH 6 rfl ?_
  refine zH 7 rfl ?_
  refine zH 8 rfl ?_
  refine zH 9 rfl ?_
  try simp only [Act.put,List.setIfInBounds_toArray,List.set_cons_zero,List.set_cons_succ]
  refine wpAnyH_ready (rs:=[5,11]) (by kernel_rfl) (by simp) ?_
  refine AllReadyH.cons (o:=⟨_,_,_,_,_,_⟩) rfl (fun K hK=>?_) ?_
  ·go_simp
   (go_at_call 42;(with_reducible refine (HR.out _ HBd.out).mono ?_);rintro e w3 ⟨rfl,hb3⟩;have B3:=below_go (Below.refl n2 w2).drew hb3 hsz2;have s3:=below_size hsz3 B3)
   refine hK.out _ _ ?_ (fun hHeld=>?_)
   ·(try dsimp only)
    (first | with_reducible exact HOS.out | with_reducible exact old_drew (old_alloc HOS2.out) | with_reducible exact old_alloc (by assumption) | with_reducible exact old_call (by assumption) (by assumption) | with_reducible exact old_alloc (old_call hb3 HOS.out) | with_reducible exact old_set hn6 (old_set hn6 (old_set hn6 (old_set hn6 (old_set hn6 (old_set hn6 (old_set hn6 (by assumption))))))))
   clear hK K
   refine zH 10 rfl ?_
   try simp only [Act.put,List.setIfInBounds_toArray,List.set_cons_zero,List.set_cons_succ]
   refine wpAnyH_ready (rs:=[11]) (by kernel_rfl) (by simp) ?_
   refine AllReadyH.cons (o:=⟨_,_,_,_,_,_⟩) rfl (fun K hK=>?_) ?_
   ·go_simp
    refine hK.out _ _ ?_ (fun hHeld=>?_)
    ·(try dsimp only)
     (first | with_reducible exact HOS.out | with_reducible exact old_drew (old_alloc HOS2.out) | with_reducible exact old_alloc (by assumption) | with_reducible exact old_call (by assumption) (by assumption) | with_reducible exact old_alloc (old_call hb3 HOS.out) | with_reducible exact old_set hn6 (old_set hn6 (old_set hn6 (old_set hn6 (old_set hn6 (old_set hn6 (old_set hn6 (by assumption))))))))
    clear hK K
    try simp only [Act.put,List.setIfInBounds_toArray,List.set_cons_zero,List.set_cons_succ]
    refine wpAnyH_ready (rs:=[12]) (by kernel_rfl) (by simp) ?_
    refine AllReadyH.cons (o:=⟨_,_,_,_,_,_⟩) rfl (fun K hK=>?_) ?_
    ·go_simp
     refine hK.out _ _ ?_ (fun hHeld=>?_)
     ·(try dsimp only)
      (first | with_reducible exact HOS.out | with_reducible exact old_drew (old_alloc HOS2.out) | with_reducible exact old_alloc (by assumption) | with_reducible exact old_call (by assumption) (by assumption) | with_reducible exact old_alloc (old_call hb3 HOS.out) | with_reducible exact old_set hn6 (old_set hn6 (old_set hn6 (old_set hn6 (old_set hn6 (old_set hn6 (old_set hn6 (by assumption))))))))
     clear hK K
     try simp only [Act.put,List.setIfInBounds_toArray,List.set_cons_zero,List.set_cons_succ]
     refine wpAnyH_done (by kernel_rfl) ?_ _
     refine NoPanic.normal ?_
     go_wp2_with fail
     go_meet
     case rel =>
      refine ⟨_,rfl,?_,?_⟩
      ·exact alloc_new w3 _
      ·exact B3.alloc s3 _
    exact AllReadyH.nil
   exact AllReadyH.nil
  refine AllReadyH.cons (o:=⟨_,_,_,_,_,_⟩) rfl (fun K hK=>?_) ?_
  ·go_simp
   refine hK.out _ _ ?_ (fun hHeld=>?_)
   ·(try dsimp only)
    (first | with_reducible exact HOS.out | with_reducible exact old_drew (old_alloc HOS2.out) | with_reducible exact old_alloc (by assumption) | with_reducible exact old_call (by assumption) (by assumption) | with_reducible exact old_alloc (old_call hb3 HOS.out) | with_reducible exact old_set hn6 (old_set hn6 (old_set hn6 (old_set hn6 (old_set hn6 (old_set hn6 (old_set hn6 (by assumption))))))))
   clear hK K
   try simp only [Act.put,List.setIfInBounds_toArray,List.set_cons_zero,List.set_cons_succ]
   refine wpAnyH_ready (rs:=[5]) (by kernel_rfl) (by simp) ?_
   refine AllReadyH.cons (o:=⟨_,_,_,_,_,_⟩) rfl (fun K hK=>?_) ?_
   ·go_simp
    (go_at_call 42;(with_reducible refine (HR.out _ (HBd2.out _)).mono ?_);rintro e w3 ⟨rfl,hb3⟩;have B3:=below_go ((Below.refl n2 w2).alloc hsz3 _).drew hb3 (Nat.le_trans hsz3 (alloc_below _ _).size);have s3:=below_size hsz3 B3;have hz:=keepBlk hb3 (alloc_new_drew _ _);have hn6:=hsz3;obtain ⟨⟨e0,e1,e2,e3,e4,e5,e6⟩,⟨g0,g1,g2,g3,g4,g5,g6⟩,g7⟩:=seven hz)
    refine hK.out _ _ ?_ (fun hHeld=>?_)
    ·(try dsimp only)
     (first | with_reducible exact HOS.out | with_reducible exact old_drew (old_alloc HOS2.out) | with_reducible exact old_alloc (by assumption) | with_reducible exact old_call (by assumption) (by assumption) | with_reducible exact old_alloc (old_call hb3 HOS.out) | with_reducible exact old_set hn6 (old_set hn6 (old_set hn6 (old_set hn6 (old_set hn6 (old_set hn6 (old_set hn6 (by assumption))))))))
    clear hK K
    refine zH 10 rfl ?_
    try simp only [Act.put,List.setIfInBounds_toArray,List.set_cons_zero,List.set_cons_succ]
    refine wpAnyH_ready (rs:=[12]) (by kernel_rfl) (by simp) ?_
    refine AllReadyH.cons (o:=⟨_,_,_,_,_,_⟩) rfl (fun K hK=>?_) ?_
    ·go_simp
     refine hK.out _ _ ?_ (fun hHeld=>?_)
     ·(try dsimp only)
      (first | with_reducible exact HOS.out | with_reducible exact old_drew (old_alloc HOS2.out) | with_reducible exact old_alloc (by assumption) | with_reducible exact old_call (by assumption) (by assumption) | with_reducible exact old_alloc (old_call hb3 HOS.out) | with_reducible exact old_set hn6 (old_set hn6 (old_set hn6 (old_set hn6 (old_set hn6 (old_set hn6 (old_set hn6 (by assumption))))))))
     clear hK K
     try simp only [Act.put,List.setIfInBounds_toArray,List.set_cons_zero,List.set_cons_succ]
     refine wpAnyH_done (by kernel_rfl) ?_ _
     refine NoPanic.normal ?_
     go_wp2_with fail
     go_meet
     case rel =>
      refine ⟨_,rfl,?_,?_⟩
      ·exact set7 _ _ _ _ _ _ _ hz
      ·exact below7 _ _ _ _ _ _ _ B3 hn6
    exact AllReadyH.nil
   exact AllReadyH.nil
  exact AllReadyH.nil
 case rest =>
  obtain ⟨n6,rfl,hlim,hbF⟩:=hcut
  have hbW:=HB2.out.trans (hbF.mono HB2.out.size)
  have HC:=hid (HCF.out n6 wc hbW hlim)
  obtain ⟨r2,_,r3,_⟩:=copyF HL2.out hbF (Array.getElem?_eq_some_iff.1 HL2.out).1
  have z1:=r2 1 (by simp)
  simp only [List.getElem_toArray,List.getElem_cons_succ,List.getElem_cons_zero] at z1
  clear HR HCF HL1 HL2 HB2 hlim hbF p0 p1 q0 q1 s1 s2 r2
  go_wp2_with fail
  refine HC.out.mono ?_
  rintro e w8 ⟨rfl,hb8⟩
  have hbe8:=hbW.trans (hb8.mono hbW.size)
  clear HC hb8
  go_wp2
  go_ret
  exact ⟨by rw [HD.out];rfl,hbe8⟩
end Go.Proofs.YtpejpnffcepdlaaGreatDoor.ShH
namespace Go.Proofs.YtpejpnffcepdlaaGreatDoor.ShRS
open Go.RowKit Go.Lib SetP IntO TyM TyP TyB TyQ TyRE ShM ShP ShA ShB ShQ ShTB Aft

def TwoIx (W:World) (n6 n7:Nat) (x y:Ix) (xa xf ya yf:Value) (wc:World):Prop:=wc.heap[n6]?=some (.cells #[.int .u8 x.op,.int .i64 x.typ,.int .i64 x.a,.int .i64 x.b,.int .i64 x.n,xa,xf] 31 (0,0))∧wc.heap[n7]?=some (.cells #[.int .u8 y.op,.int .i64 y.typ,.int .i64 y.a,.int .i64 y.b,.int .i64 y.n,ya,yf] 31 (0,0))∧Aft W wc

theorem alloc_at (w:World) (o:Obj) (n:Nat) (h:w.heap.size=n):(w.alloc o).heap[n]?=some o:=by subst h;exact alloc_new w o

theorem sameInsR_calls (va vb:Value) (a b:List Ix) (w:World) (ha:InsAt w va a) (hb:InsAt w vb b) :
  Calls Tryz.prog 79 #[va,vb] w (BoolR (decide (a=b)) w):=by
 have HA:=hid ha
 have HB:=hid hb
 obtain ⟨ao,ac,rfl,hla⟩:=ha.slice
 obtain ⟨bo,bc,rfl,_⟩:=hb.slice
 clear ha hb
 by_cases hlen:a.length=b.length
 rotate_left
 ·have hne:a≠b:=fun e=>hlen (by rw [e])
  rw [decide_eq_false hne]
  have hd:((a.length:Int) != (b.length:Int))=true:=by simp;omega
  clear hne hlen
  generalize a.length=n at *
  generalize b.length=m at *
  go_enter Tryz.func79,Tryz.ntmps79
  go_wp2
  go_ret
  exact ⟨rfl,Below.refl _ _⟩
 have HL:=hid hlen
 have HPA:=hid (pre_all (a:=a) (b:=b) hlen)
 have HNL:Hid (b.length=a.length):=hlen.symm
 rw [← hlen]
 rw [← hlen] at HB
 clear hlen
 go_enter Tryz.func79,Tryz.ntmps79
 go_wp2
 go_loopg [5] a.length (fun gk i wr=>∃ k:Nat,k+gk=a.length∧i=.int .i64 k∧Pre a b k∧Aft w wr)
 case atStart=>exact ⟨0,by omega,rfl,rfl,Aft.refl _⟩
 case round =>
  obtain ⟨k,hk,rfl,hpre,hr⟩:=hrel
  have HK:=hid hk
  have HPRE:=hid hpre
  clear hpre
  by_cases hlt:k < a.length
  rotate_left
  ·obtain rfl:k=a.length:=by omega
   have HEQ:=hid (HPA.out HPRE.out)
   clear hk
   generalize a.length=n at *
   go_wp2
   go_ret
   exact ⟨by rw [decide_eq_true HEQ.out];rfl,hr.below⟩
  have hltb:k < b.length:=by rw [HNL.out];exact hlt
  obtain ⟨ab,aoff,rfl,ha0,xa,xf,a0,a1,a2,a3,a4,a5,a6,hxa,hxf⟩:=(HA.out.below insStays hr.below).at k hlt
  obtain ⟨bb,boff,rfl,hb0,ya,yf,b0,b1,b2,b3,b4,b5,b6,hya,hyf⟩:=(HB.out.below insStays hr.below).at k hltb
  have HE:=hid (pre_succ hlt hltb HPRE.out)
  have HN:=hid (ne_at hlt hltb)
  have HRW:=hid hr
  clear hk hr
  generalize a[k]=x at *
  generalize b[k]=y at *
  have HXA:=hid hxa
  have HXF:=hid hxf
  have HYA:=hid hya
  have HYF:=hid hyf
  obtain ⟨q1,q2,rfl,_⟩:=ints_slice hxa
  obtain ⟨q3,q4,rfl,_⟩:=ints_slice hxf
  obtain ⟨q5,q6,rfl,_⟩:=ints_slice hya
  obtain ⟨q7,q8,rfl,_⟩:=ints_slice hyf
  clear hxa hxf hya hyf
  go_upto_region 6 with fail
  go_cut [6,7] (fun u v wc=>∃ n6 n7,u=.pointer (some ⟨n6,0,none⟩)∧v=.pointer (some ⟨n7,0,none⟩)∧TwoIx wr n6 n7 x y (.slice q1 x.args.length q2) (.slice q3 x.frm.length q4) (.slice q5 y.args.length q6) (.slice q7 y.frm.length q8) wc)
  case first =>
   go_region
   all_goals
    go_wp2
    go_meet
    case rel=>exact ⟨_,_,rfl,rfl,by first | exact alloc_old (alloc_new _ _) _ | exact alloc_at _ _ _ (World.size_alloc _ _),by first | exact alloc_old (alloc_new _ _) _ | exact alloc_at _ _ _ (World.size_alloc _ _),(((Aft.refl _).alloc _).alloc _).drew⟩
  case rest =>
  obtain ⟨n6,n7,rfl,rfl,hx6,hy7,hrc⟩:=hcut
  have c0:=later_cells hx6 0 _ rfl;have c1:=later_cells hx6 1 _ rfl;have c2:=later_cells hx6 2 _ rfl;have c3:=later_cells hx6 3 _ rfl;have c4:=later_cells hx6 4 _ rfl;have c5:=later_cells hx6 5 _ rfl;have c6:=later_cells hx6 6 _ rfl
  have d0:=later_cells hy7 0 _ rfl;have d1:=later_cells hy7 1 _ rfl;have d2:=later_cells hy7 2 _ rfl;have d3:=later_cells hy7 3 _ rfl;have d4:=later_cells hy7 4 _ rfl;have d5:=later_cells hy7 5 _ rfl;have d6:=later_cells hy7 6 _ rfl
  have HC:=hid (fun wx (h:Aft wr wx)=>sameInts_calls _ _ x.args y.args wx (HXA.out.below h.below) (HYA.out.below h.below))
  have HC2:=hid (fun wx (h:Aft wr wx)=>sameInts_calls _ _ x.frm y.frm wx (HXF.out.below h.below) (HYF.out.below h.below))
  have HEX:=hid (@ix_eq x y)
  have HRC:=hid hrc
  have h0:=Aft.refl wc
  clear hx6 hy7 a0 a1 a2 a3 a4 a5 a6 b0 b1 b2 b3 b4 b5 b6 hrc HXA HXF HYA HYF
  obtain ⟨xop,xty,xxa,xb,xn,xl,xm⟩:=x
  obtain ⟨yop,yty,yya,yb,yn,yl,ym⟩:=y
  simp only at *
  generalize xl.length=l1 at *
  generalize xm.length=l2 at *
  generalize yl.length=l3 at *
  generalize ym.length=l4 at *
  cases e0:(xop != yop) with
  | true =>
   have HNE:=hid (HN.out (fun h=>by have:=(HEX.out.1 h).1;simp at e0;exact e0 this))
   clear HE HN HC HC2 HEX
   go_wp2
   go_ret
   exact ⟨by rw [decide_eq_false HNE.out];rfl,(HRW.out.trans HRC.out).below⟩
  | false =>
  cases e1:(xty != yty) with
  | true =>
   have HNE:=hid (HN.out (fun h=>by have:=(HEX.out.1 h).2.1;simp at e1;exact e1 this))
   clear HE HN HC HC2 HEX
   go_wp2
   go_ret
   exact ⟨by rw [decide_eq_false HNE.out];rfl,(HRW.out.trans HRC.out).below⟩
  | false =>
  cases e2:(xxa != yya) with
  | true =>
   have HNE:=hid (HN.out (fun h=>by have:=(HEX.out.1 h).2.2.1;simp at e2;exact e2 this))
   clear HE HN HC HC2 HEX
   go_wp2
   go_ret
   exact ⟨by rw [decide_eq_false HNE.out];rfl,(HRW.out.trans HRC.out).below⟩
  | false =>
  cases e3:(xb != yb) with
  | true =>
   have HNE:=hid (HN.out (fun h=>by have:=(HEX.out.1 h).2.2.2.1;simp at e3;exact e3 this))
   clear HE HN HC HC2 HEX
   go_wp2
   go_ret
   exact ⟨by rw [decide_eq_false HNE.out];rfl,(HRW.out.trans HRC.out).below⟩
  | false =>
  cases e4:(xn != yn) with
  | true =>
   have HNE:=hid (HN.out (fun h=>by have:=(HEX.out.1 h).2.2.2.2.1;simp at e4;exact e4 this))
   clear HE HN HC HC2 HEX
   go_wp2
   go_ret
   exact ⟨by rw [decide_eq_false HNE.out];rfl,(HRW.out.trans HRC.out).below⟩
  | false =>
  have HC1:=hid (HC.out wc HRC.out)
  clear HC
  cases hq:decide (xl=yl) with
  | false =>
   rw [hq] at HC1
   have HNE:=hid (HN.out (fun h=>(of_decide_eq_false hq) (HEX.out.1 h).2.2.2.2.2.1))
   clear HE HN HC2 HEX hq
   go_wp2_with fail
   refine HC1.out.mono ?_
   rintro e w1 ⟨rfl,hb1⟩
   have h1:=h0.go hb1
   clear hb1 HC1
   go_wp2
   go_ret
   exact ⟨by rw [decide_eq_false HNE.out];rfl,(HRW.out.trans (HRC.out.trans h1)).below⟩
  | true =>
  rw [hq] at HC1
  cases hq2:decide (xm=ym) with
  | false =>
   rw [hq2] at HC2
   have HNE:=hid (HN.out (fun h=>(of_decide_eq_false hq2) (HEX.out.1 h).2.2.2.2.2.2))
   clear HE HN HEX hq hq2
   go_wp2_with fail
   refine HC1.out.mono ?_
   rintro e w1 ⟨rfl,hb1⟩
   have h1:=h0.go hb1
   have HC3:=hid (HC2.out w1 (HRC.out.trans h1))
   clear hb1 HC1 HC2
   go_wp2_with fail
   refine HC3.out.mono ?_
   rintro e w2 ⟨rfl,hb2⟩
   have h2:=h1.go hb2
   clear hb2 HC3
   go_wp2
   go_ret
   exact ⟨by rw [decide_eq_false HNE.out];rfl,(HRW.out.trans (HRC.out.trans h2)).below⟩
  | true =>
  rw [hq2] at HC2
  have HEQ:=hid (HE.out (HEX.out.2 ⟨by simpa using e0,by simpa using e1,by simpa using e2,by simpa using e3,by simpa using e4,of_decide_eq_true hq,of_decide_eq_true hq2⟩))
  clear HE HN HEX hq hq2
  go_wp2_with fail
  refine HC1.out.mono ?_
  rintro e w1 ⟨rfl,hb1⟩
  have h1:=h0.go hb1
  have HC3:=hid (HC2.out w1 (HRC.out.trans h1))
  clear hb1 HC1 HC2
  go_wp2_with fail
  refine HC3.out.mono ?_
  rintro e w2 ⟨rfl,hb2⟩
  have h2:=h1.go hb2
  have hfin:=HRW.out.trans (HRC.out.trans h2)
  clear hb2 HC3
  go_wp2
  go_roundg (gk - 1)
  case measure=>have:=HK.out;omega
  case rel=>exact ⟨k+1,by have:=HK.out;omega,by go_num,HEQ.out,hfin⟩
end Go.Proofs.YtpejpnffcepdlaaGreatDoor.ShRS

namespace Go.Proofs.YtpejpnffcepdlaaGreatDoor.ShRJ
open Go.RowKit Go.Lib SetP IntO TyM TyP TyB TyQ TyRE ShM ShP ShA ShB ShQ ShD ShTB ShRS Aft

theorem sameBlocksR_calls (va vb:Value) (a b:List Bx) (w:World) (ha:BlksAt w va a) (hb:BlksAt w vb b) :
  Calls Tryz.prog 39 #[va,vb] w (BoolR (decide (a=b)) w):=by
 have HA:=hid ha
 have HB:=hid hb
 obtain ⟨ao,ac,rfl,hla⟩:=ha.slice
 obtain ⟨bo,bc,rfl,_⟩:=hb.slice
 clear ha hb
 by_cases hlen:a.length=b.length
 rotate_left
 ·have hne:a≠b:=fun e=>hlen (by rw [e])
  rw [decide_eq_false hne]
  have hd:((a.length:Int) != (b.length:Int))=true:=by simp;omega
  clear hne hlen
  generalize a.length=n at *
  generalize b.length=m at *
  go_enter Tryz.func39,Tryz.ntmps39
  go_wp2
  go_ret
  exact ⟨rfl,Below.refl _ _⟩
 have HL:=hid hlen
 have HPA:=hid (pre_all (a:=a) (b:=b) hlen)
 have HNL:Hid (b.length=a.length):=hlen.symm
 rw [← hlen]
 rw [← hlen] at HB
 clear hlen
 go_enter Tryz.func39,Tryz.ntmps39
 go_wp2
 go_loopg [5] a.length (fun gk i wr=>∃ k:Nat,k+gk=a.length∧i=.int .i64 k∧Pre a b k∧Aft w wr)
 case atStart=>exact ⟨0,by omega,rfl,rfl,Aft.refl _⟩
 case round =>
  obtain ⟨k,hk,rfl,hpre,hr⟩:=hrel
  have HK:=hid hk
  have HPRE:=hid hpre
  clear hpre
  by_cases hlt:k < a.length
  rotate_left
  ·obtain rfl:k=a.length:=by omega
   have HEQ:=hid (HPA.out HPRE.out)
   clear hk
   generalize a.length=n at *
   go_wp2
   go_ret
   exact ⟨by rw [decide_eq_true HEQ.out];rfl,hr.below⟩
  have hltb:k < b.length:=by rw [HNL.out];exact hlt
  obtain ⟨ab,aoff,rfl,ha0,xi,a0,a1,a2,a3,a4,hxi⟩:=HA.out.at k hlt
  obtain ⟨bb,boff,rfl,hb0,yi,b0,b1,b2,b3,b4,hyi⟩:=HB.out.at k hltb
  have c0:=later a0;have c1:=later a1;have c2:=later a2;have c3:=later a3;have c4:=later a4
  have d0:=later b0;have d1:=later b1;have d2:=later b2;have d3:=later b3;have d4:=later b4
  have HE:=hid (pre_succ hlt hltb HPRE.out)
  have HN:=hid (ne_at hlt hltb)
  have hrd:=hr.drew
  clear hk a0 a1 a2 a3 a4 b0 b1 b2 b3 b4
  have hlk:(k:Int) < a.length:=by omega
  generalize a[k]=x at *
  generalize b[k]=y at *
  have HC:=hid (sameInsR_calls xi yi x.ins y.ins wr.drew (hxi.below insStays hrd.below) (hyi.below insStays hrd.below))
  have hq:=fun w=>neq_ex x.en.kind x.en.a x.en.to x.en.els y.en.kind y.en.a y.en.to y.en.els w
  rw [ex_dec] at hq
  have HEX:=hid (@bx_eq x y)
  obtain ⟨q1,q2,rfl,_⟩:=hxi.slice
  obtain ⟨q3,q4,rfl,_⟩:=hyi.slice
  clear hxi hyi HA HB HPA
  generalize a.length=n at *
  cases he:decide (x.en=y.en) with
  | false =>
   rw [he] at hq
   have HNE:=hid (HN.out (fun h=>(of_decide_eq_false he) (HEX.out.1 h).2))
   clear HE HN HC HEX he
   obtain ⟨xn,xk,xxa,xt,xe⟩:=x
   obtain ⟨yn,yk,yya,yt,ye⟩:=y
   simp only at *
   generalize xn.length=l1 at *
   generalize yn.length=l2 at *
   go_upto_region 6 with fail
   go_quiet (fail)
   obtain ⟨wd,hwd⟩:∃ wd:World,wd=wr.drewN nq:=⟨_,rfl⟩
   have hbd:Aft w wd:=by rw [hwd];exact below_drewN hr nq
   rw [← hwd]
   clear hwd
   go_wp2
   go_ret
   exact ⟨by rw [decide_eq_false HNE.out];rfl,hbd.below⟩
  | true =>
   rw [he] at hq
   have HEI:Hid (x.ins=y.ins→x=y):=fun h=>HEX.out.2 ⟨h,of_decide_eq_true he⟩
   clear HEX he
   obtain ⟨xn,xk,xxa,xt,xe⟩:=x
   obtain ⟨yn,yk,yya,yt,ye⟩:=y
   simp only at *
   cases hi:decide (xn=yn) with
   | false =>
    rw [hi] at HC
    have HNE:=hid (HN.out (fun h=>(of_decide_eq_false hi) (congrArg Bx.ins h)))
    clear HE HN HEI hi
    generalize xn.length=l1 at *
    generalize yn.length=l2 at *
    go_upto_region 6 with fail
    go_region_held3 (fun w'=>Aft w w') (first | exact hrd.go hb5 | exact hrd) ((go_at_call 79;refine HC.out.mono ?_;rintro e w5 ⟨rfl,hb5⟩))
    all_goals
     have h5:=hrd.go hb5
     go_wp2
     go_ret
     exact ⟨by rw [decide_eq_false HNE.out];rfl,h5.below⟩
   | true =>
    rw [hi] at HC
    have HEQ:=hid (HE.out (HEI.out (of_decide_eq_true hi)))
    clear HE HN HEI hi
    generalize xn.length=l1 at *
    generalize yn.length=l2 at *
    go_upto_region 6 with fail
    go_region_held3 (fun w'=>Aft w w') (first | exact hrd.go hb5 | exact hrd) ((go_at_call 79;refine HC.out.mono ?_;rintro e w5 ⟨rfl,hb5⟩))
    all_goals
     have h5:=hrd.go hb5
     clear hb5
     go_wp2
     go_roundg (gk - 1)
     case measure=>have:=HK.out;omega
     case rel=>exact ⟨k+1,by have:=HK.out;omega,by go_num,HEQ.out,h5⟩

theorem sameP_calls (v u:Value) (x y:Px) (w:World) (hx:PrAt w v x) (hy:PrAt w u y) :
  Calls Tryz.prog 17 #[v,u] w (BoolR (decide (x=y)) w):=by
 obtain ⟨xt,xf,rfl,hxt,hxf⟩:=hx
 obtain ⟨yt,yf,rfl,hyt,hyf⟩:=hy
 obtain ⟨W,hW⟩:∃ W,W=(w.alloc (.cells #[xt,xf] 27)).alloc (.cells #[yt,yf] 27):=⟨_,rfl⟩
 have hbW:Below w.heap.size w W:=by rw [hW];exact alloc2 _ _ _
 have k1:W.heap[w.heap.size]?=some (.cells #[xt,xf] 27 (0,0)):=by rw [hW];exact alloc_old (alloc_new _ _) _
 have k2:W.heap[w.heap.size+1]?=some (.cells #[yt,yf] 27 (0,0)):=by rw [hW];exact alloc_at _ _ _ (World.size_alloc _ _)
 have HC:=hid (fun wx (h:Aft W wx)=>sameR_calls xt yt x.types y.types wx ((hxt.below hbW).below h.below) ((hyt.below hbW).below h.below))
 have HX:=hid (hxf.below fnStays hbW)
 have HY:=hid (hyf.below fnStays hbW)
 have HE:=hid (@px_eq x y)
 obtain ⟨xta,xtc,rfl⟩:=hxt.slice
 obtain ⟨yta,ytc,rfl⟩:=hyt.slice
 obtain ⟨xfa,xfc,rfl,_⟩:=hxf.slice
 obtain ⟨yfa,yfc,rfl,_⟩:=hyf.slice
 have l0:=later_cells k1 0 _ rfl;have l1:=later_cells k1 1 _ rfl
 have m0:=later_cells k2 0 _ rfl;have m1:=later_cells k2 1 _ rfl
 have HBW:=hid hbW
 have HW:=hid hW
 have h0:=Aft.refl W
 clear hxt hyt hxf hyf hbW hW k1 k2
 obtain ⟨xts,xfs⟩:=x
 obtain ⟨yts,yfs⟩:=y
 simp only at *
 generalize xts.length=n1 at *
 generalize yts.length=n2 at *
 by_cases hlen:xfs.length=yfs.length
 rotate_left
 ·rw [decide_eq_false (fun h=>hlen (congrArg List.length (HE.out.1 h).2))]
  have hd:((xfs.length:Int) != (yfs.length:Int))=true:=by simp;omega
  clear HE HC HX HY hlen
  generalize xfs.length=n3 at *
  generalize yfs.length=n4 at *
  go_enter Tryz.func17,Tryz.ntmps17
  go_wp2_with fail
  rw [← HW.out]
  go_wp2
  go_ret
  exact ⟨rfl,HBW.out⟩
 have hd:((xfs.length:Int) != (yfs.length:Int))=false:=by simp;omega
 have HNL:Hid (yfs.length=xfs.length):=hlen.symm
 have HPA:=hid (pre_all (a:=xfs) (b:=yfs) hlen)
 cases hq:decide (xts=yts) with
 | false =>
  rw [decide_eq_false (fun h=>(of_decide_eq_false hq) (HE.out.1 h).1)]
  have HC1:=hid (HC.out W h0)
  rw [hq] at HC1
  clear HE HC HX HY HPA hq HNL hlen
  generalize xfs.length=n3 at *
  generalize yfs.length=n4 at *
  go_enter Tryz.func17,Tryz.ntmps17
  go_wp2_with fail
  rw [← HW.out]
  refine HC1.out.mono ?_
  rintro e w1 ⟨rfl,hb1⟩
  have h1:=h0.go hb1
  clear HC1 hb1
  go_wp2
  go_ret
  exact ⟨rfl,h1.out HBW.out⟩
 | true =>
 have HC1:=hid (HC.out W h0)
 rw [hq] at HC1
 have HDD:Hid (decide ((⟨xts,xfs⟩:Px)=⟨yts,yfs⟩)=decide (xfs=yfs)):=by
  show _=_
  rw [Bool.eq_iff_iff,decide_eq_true_iff,decide_eq_true_iff,HE.out]
  exact ⟨fun h=>h.2,fun h=>⟨of_decide_eq_true hq,h⟩⟩
 rw [HDD.out]
 clear HE HC hq HDD
 rw [← hlen] at hd m1
 rw [← hlen]
 rw [← hlen] at HY HW
 clear hlen
 go_enter Tryz.func17,Tryz.ntmps17
 go_wp2_with fail
 rw [← HW.out]
 refine HC1.out.mono ?_
 rintro e w1 ⟨rfl,hb1⟩
 have h1:=h0.go hb1
 have HH1:=hid h1
 clear HC1 hb1
 go_wp2_with fail
 go_loopg [5] xfs.length (fun gk i wr=>∃ k:Nat,k+gk=xfs.length∧i=.int .i64 k∧Pre xfs yfs k∧Aft W wr)
 case atStart=>exact ⟨0,by omega,rfl,rfl,HH1.out⟩
 case round =>
  obtain ⟨k,hk,rfl,hpre,hr⟩:=hrel
  clear h1
  have HK:=hid hk
  have HPRE:=hid hpre
  clear hpre
  by_cases hlt:k < xfs.length
  rotate_left
  ·obtain rfl:k=xfs.length:=by omega
   have HEQ:=hid (HPA.out HPRE.out)
   clear hk
   generalize xfs.length=n at *
   go_wp2
   go_ret
   exact ⟨by rw [decide_eq_true HEQ.out];rfl,hr.out HBW.out⟩
  have hltb:k < yfs.length:=by rw [HNL.out];exact hlt
  obtain ⟨ab,aoff,rfl,ha0,xi,a0,a1,hxi⟩:=HX.out.at k hlt
  obtain ⟨bb,boff,rfl,hb0,yi,b0,b1,hyi⟩:=HY.out.at k hltb
  have c0:=later a0;have c1:=later a1
  have d0:=later b0;have d1:=later b1
  have HEE:=hid (pre_succ hlt hltb HPRE.out)
  have HN:=hid (ne_at hlt hltb)
  have hrd:=hr.drew
  clear hk a0 a1 b0 b1
  have hlk:(k:Int) < xfs.length:=by omega
  generalize xfs[k]=x at *
  generalize yfs[k]=y at *
  have HC:=hid (sameBlocksR_calls xi yi x.blocks y.blocks wr.drew (hxi.below blkStays hrd.below) (hyi.below blkStays hrd.below))
  have HEX:=hid (@fx_eq x y)
  obtain ⟨q1,q2,rfl,_⟩:=hxi.slice
  obtain ⟨q3,q4,rfl,_⟩:=hyi.slice
  clear hxi hyi HX HY HPA HNL hltb hlt
  generalize xfs.length=n at *
  obtain ⟨xs,xb⟩:=x
  obtain ⟨ys,yb⟩:=y
  simp only at *
  cases he:(xs != ys) with
  | true =>
   have HNE:=hid (HN.out (fun h=>by have:=(HEX.out.1 h).1;simp at he;exact he this))
   clear HEE HN HC HEX
   generalize xb.length=l1 at *
   generalize yb.length=l2 at *
   go_upto_region 6 with fail
   go_quiet (fail)
   obtain ⟨wd,hwd⟩:∃ wd:World,wd=wr.drewN nq:=⟨_,rfl⟩
   have hbd:Aft W wd:=by rw [hwd];exact below_drewN hr nq
   rw [← hwd]
   clear hwd
   go_wp2
   go_ret
   exact ⟨by rw [decide_eq_false HNE.out];rfl,hbd.out HBW.out⟩
  | false =>
   cases hi:decide (xb=yb) with
   | false =>
    rw [hi] at HC
    have HNE:=hid (HN.out (fun h=>(of_decide_eq_false hi) (congrArg Fx.blocks h)))
    clear HEE HN HEX hi
    generalize xb.length=l1 at *
    generalize yb.length=l2 at *
    go_upto_region 6 with fail
    go_region_held3 (fun w'=>Aft W w') (first | exact hrd.go hb5 | exact hrd) ((go_at_call 39;refine HC.out.mono ?_;rintro e w5 ⟨rfl,hb5⟩))
    all_goals
     have h5:=hrd.go hb5
     go_wp2
     go_ret
     exact ⟨by rw [decide_eq_false HNE.out];rfl,h5.out HBW.out⟩
   | true =>
    rw [hi] at HC
    have HEQ:=hid (HEE.out (HEX.out.2 ⟨by simpa using he,of_decide_eq_true hi⟩))
    clear HEE HN HEX hi
    generalize xb.length=l1 at *
    generalize yb.length=l2 at *
    go_upto_region 6 with fail
    go_region_held3 (fun w'=>Aft W w') (first | exact hrd.go hb5 | exact hrd) ((go_at_call 39;refine HC.out.mono ?_;rintro e w5 ⟨rfl,hb5⟩))
    all_goals
     have h5:=hrd.go hb5
     clear hb5
     go_wp2
     go_roundg (gk - 1)
     case measure=>have:=HK.out;omega
     case rel=>exact ⟨k+1,by have:=HK.out;omega,by go_num,HEQ.out,h5⟩
end Go.Proofs.YtpejpnffcepdlaaGreatDoor.ShRJ
