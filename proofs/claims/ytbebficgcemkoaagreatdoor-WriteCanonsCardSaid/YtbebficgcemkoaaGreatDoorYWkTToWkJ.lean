/- Walks over the writer's typ and end. Walk over the writer's args. Walk over the writer's instruction. -/
import Derived.Test.YtbebficgcemkoaaGreatDoorYWkL
import Derived.Test.YtbebficgcemkoaaGreatDoorYWrP
import Derived.Deep.Cut
import Derived.Deep.DeepCutAuto
import Derived.Test.YtbebficgcemkoaaGreatDoorYShAToShAn
import Derived.Test.YtbebficgcemkoaaGreatDoorYShBToShV
set_option maxRecDepth 100000
set_option maxHeartbeats 16000000
namespace Go.Proofs.YtbebficgcemkoaaGreatDoor.WkT
open Go.RowKit Go.Lib IntO SetP TyM ShM ShP LxM LxP LxJ RwO RgZ NumP WrM WrI WrP WkM WkA WkL Aft


theorem cell_at {W:World} {b:Nat} {cs:Array Value} {ty:TypeId} (h:W.heap[b]?=some (.cells cs ty (0,0))) (i:Nat) (v:Value) (hv:cs[i]?=some v):W.cell? ⟨b,i,none⟩=some v:=by
 unfold World.cell?;rw [h];exact hv
theorem alloc2 (w:World) (c1 c2:Array Value) (t1 t2:TypeId):((w.alloc (.cells c1 t1)).alloc (.cells c2 t2)).drew.heap[w.heap.size]?=some (.cells c1 t1 (0,0))∧((w.alloc (.cells c1 t1)).alloc (.cells c2 t2)).drew.heap[w.heap.size+1]?=some (.cells c2 t2 (0,0))∧Below w.heap.size w ((w.alloc (.cells c1 t1)).alloc (.cells c2 t2)).drew:=by
 have h1:=heap_alloc_new w (.cells c1 t1)
 have h2:=heap_alloc_new (w.alloc (.cells c1 t1)) (.cells c2 t2)
 rw [World.size_alloc] at h2
 have hb:Below w.heap.size w ((w.alloc (.cells c1 t1)).alloc (.cells c2 t2)):=(LxP.alloc_below _ _).alloc (by rw [World.size_alloc];omega) _
 exact ⟨((LxP.alloc_below (w.alloc (.cells c1 t1)) (.cells c2 t2)).block _ (by rw [World.size_alloc];omega)).trans h1,h2,hb.drew⟩
theorem line_lit {w1:World} {l:List Pt} {cs:List Value} {n:Nat} {ty:TypeId} (hlen:l.length=n) (hn:n≤100) (hv:vals l=cs) (ha:∀ p∈l,p.At w1) (hw:(wordsAll l).length≤10000) (ht:NumL.Tab w1) :
  Calls Tryz.prog 43 #[.slice (some ⟨w1.heap.size,0,none⟩) n n] (w1.alloc (.cells cs.toArray ty)) (LineR (wordsAll l) w1) :=
 (line_calls _ l _ (parts_lit hlen hn hv ha ty) hw (ht.on (LxP.alloc_below _ _))).mono fun e w' ⟨u,h1,h2,h3⟩ =>
  ⟨u,h1,LxP.owns_base h2 (by rw [World.size_alloc];omega),(LxP.alloc_below _ _).trans (h3.mono (by rw [World.size_alloc];omega))⟩
theorem LineR.up {ws:List ByteArray} {w w1 w' : World} {e:Ending} (h:LineR ws w1 e w') (hb:Below w.heap.size w w1):LineR ws w e w':=by
 obtain ⟨u,h1,h2,h3⟩:=h
 exact ⟨u,h1,LxP.owns_base h2 hb.size,hb.trans (h3.mono hb.size)⟩
theorem all1 {p:Pt→Prop} {a:Pt} (h:p a):∀ x∈[a],p x:=fun x hx=>by rw [List.mem_singleton.1 hx];exact h
theorem allc {p:Pt→Prop} {a:Pt} {l:List Pt} (h:p a) (k:∀ x∈l,p x):∀ x∈a :: l,p x:=fun x hx=>by
 rcases List.mem_cons.1 hx with rfl | hx
 ·exact h
 ·exact k x hx

theorem q137x2 {P:Prop} (h:P:=by
 go_wp2_with fail
 refine HC.out.mono ?_
 rintro e w5 ⟨u,rfl,ho,hb⟩
 clear HC m0 m3 a0 a1 b0 b1
 obtain ⟨ua,uc,rfl⟩:=own_form ho
 have HR:=hid (LineR.up ⟨_,rfl,ho,hb⟩ HBW.out)
 go_wp2
 go_ret
 rw [HE1.out]
 exact HR.out):P:=h
theorem end_calls (x:Ex) (w:World) (h1:I64 x.a) (h2:I64 x.to) (h3:I64 x.els) (ht:NumL.Tab w) :
  Calls Tryz.prog 45 #[exV x] w (LineR (endW x) w):=by
 have HT:=hid ht
 have H1:=hid h1
 have H2:=hid h2
 have H3:=hid h3
 have HE:Hid (endW x=if x.kind=1 then [mk [106,117,109,112],mkw 98 x.to] else if x.kind=2 then [mk [98,114,97,110,99,104],mkw 114 x.a,mkw 98 x.to,mkw 98 x.els] else [mk [114,101,116,117,114,110],mkw 114 x.a]):=rfl
 clear h1 h2 h3 ht
 obtain ⟨w1,hw1⟩:∃ X,X=w.alloc (.cells #[.int .u8 x.kind,.int .i64 x.a,.int .i64 x.to,.int .i64 x.els] 52):=⟨_,rfl⟩
 have k0:w1.heap[w.heap.size]?=some (.cells #[.int .u8 x.kind,.int .i64 x.a,.int .i64 x.to,.int .i64 x.els] 52 (0,0)):=by rw [hw1];exact heap_alloc_new _ _
 have hb1:Below w.heap.size w w1:=by rw [hw1];exact LxP.alloc_below _ _
 have HW1:=hid hw1
 have HB1:=hid hb1
 have HK0:=hid k0
 have hlt1:w.heap.size < w1.heap.size:=(Array.getElem?_eq_some_iff.1 k0).1
 have l1:=cell_at k0 1 _ rfl
 have l2:=cell_at k0 2 _ rfl
 clear hw1 hb1 k0
 go_enter Tryz.func45,Tryz.ntmps45
 go_wp2_with fail
 rw [← HW1.out]
 go_cut [3,4] (fun p q wc=>∃ a b:Nat,p=.pointer (some ⟨a,0,none⟩)∧q=.pointer (some ⟨b,0,none⟩)∧wc.heap[a]?=some (.cells #[.string (mk [114]),.int .i64 x.a] 82 (0,0))∧wc.heap[b]?=some (.cells #[.string (mk [98]),.int .i64 x.to] 82 (0,0))∧Below w1.heap.size w1 wc)
 case first =>
  go_region
  all_goals
   go_wp2_with fail
   go_meet
   case rel =>
    first
    | (obtain ⟨h1,h2,h3⟩:=alloc2 w1 #[.string (mk [98]),.int .i64 x.to] #[.string (mk [114]),.int .i64 x.a] 82 82;exact ⟨_,_,rfl,rfl,h2,h1,h3⟩)
    | (obtain ⟨h1,h2,h3⟩:=alloc2 w1 #[.string (mk [114]),.int .i64 x.a] #[.string (mk [98]),.int .i64 x.to] 82 82;exact ⟨_,_,rfl,rfl,h1,h2,h3⟩)
 case rest =>
  obtain ⟨a,b,rfl,rfl,ka,kb,hbc⟩:=hcut
  obtain ⟨wd,hwd⟩:∃ wd:World,wd=wc:=⟨_,rfl⟩
  subst hwd
  have k0:=(hbc.block _ hlt1).trans HK0.out
  have m0:=cell_at k0 0 _ rfl
  have m3:=cell_at k0 3 _ rfl
  have a0:=cell_at ka 0 _ rfl
  have a1:=cell_at ka 1 _ rfl
  have b0:=cell_at kb 0 _ rfl
  have b1:=cell_at kb 1 _ rfl
  have hbw:=HB1.out.trans (hbc.mono HB1.out.size)
  have HBW:=hid hbw
  have HTW:=hid (HT.out.on hbw)
  clear l1 l2 k0 ka kb hbc hbw HB1 HK0 HT HW1
  by_cases q1:x.kind=1
  ·have HE1:=hid (HE.out.trans (if_pos q1))
   clear HE
   have HC:=hid (line_lit (w1:=wd) (l:=[.word (mk [106,117,109,112]),.mark 98 x.to]) (n:=2) (ty:=144) rfl (by decide) rfl (allc trivial (all1 H2.out)) (Nat.le_of_ble_eq_true rfl) HTW.out)
   exact q137x2
  have HE0:=hid (HE.out.trans (if_neg q1))
  clear HE
  by_cases q2:x.kind=2
  ·have HE1:=hid (HE0.out.trans (if_pos q2))
   clear HE0
   have HC:=hid (line_lit (w1:=wd) (l:=[.word (mk [98,114,97,110,99,104]),.mark 114 x.a,.mark 98 x.to,.mark 98 x.els]) (n:=4) (ty:=144) rfl (by decide) rfl (allc trivial (allc H1.out (allc H2.out (all1 H3.out)))) (Nat.le_of_ble_eq_true rfl) HTW.out)
   exact q137x2
  ·have HE1:=hid (HE0.out.trans (if_neg q2))
   clear HE0
   have HC:=hid (line_lit (w1:=wd) (l:=[.word (mk [114,101,116,117,114,110]),.mark 114 x.a]) (n:=2) (ty:=144) rfl (by decide) rfl (allc trivial (all1 H1.out)) (Nat.le_of_ble_eq_true rfl) HTW.out)
   exact q137x2
theorem q137x1 {P:Prop} (h:P:=by
 go_wp2_with fail
 refine HC.out.mono ?_
 rintro e w5 ⟨u,rfl,ho,hb⟩
 clear HC m0 m2 a0 a1 b0 b1
 obtain ⟨ua,uc,rfl⟩:=own_form ho
 have HR:=hid (LineR.up ⟨_,rfl,ho,hb⟩ HBW.out)
 go_wp2
 go_ret
 exact HR.out):P:=h
theorem typ_calls (x:Ty) (pv:Value) (w:World) (hp:IntsAt w pv x.parts) (hl:x.parts.length≤1000) (h1:I64 x.elem) (h2:I64 x.many) (h3:∀ n∈x.parts,I64 n) (ht:NumL.Tab w) :
  Calls Tryz.prog 42 #[TyP.tyV x pv] w (LineR (tyW x) w):=by
 obtain ⟨pa,pc,rfl,_⟩:=TyP.ints_slice hp
 have HT:=hid ht
 have H1:=hid h1
 have H2:=hid h2
 have HM0:=hid (And.intro hp (And.intro hl h3))
 have HE:Hid (tyW x=mk [116,121,112,101] :: (if x.kind=2 then [mk [112,116,114],mkw 116 x.elem] else if x.kind=3 then mk [102,110] :: mkw 116 x.elem :: x.parts.map (mkw 116) else if x.kind=4 then mk [115,116,114,117,99,116] :: x.parts.map (mkw 116) else if x.kind=5 then [mk [97,114,114,97,121],mkw 116 x.elem,nmw x.many] else [mk [105,110,116]])):=rfl
 clear h1 h2 h3 ht hp hl
 obtain ⟨w1,hw1⟩:∃ X,X=w.alloc (.cells #[.int .u8 x.kind,.int .i64 x.elem,.int .i64 x.many,.slice pa x.parts.length pc] 77):=⟨_,rfl⟩
 have k0:w1.heap[w.heap.size]?=some (.cells #[.int .u8 x.kind,.int .i64 x.elem,.int .i64 x.many,.slice pa x.parts.length pc] 77 (0,0)):=by rw [hw1];exact heap_alloc_new _ _
 have hb1:Below w.heap.size w w1:=by rw [hw1];exact LxP.alloc_below _ _
 have HW1:=hid hw1
 have HB1:=hid hb1
 have HK0:=hid k0
 have hlt1:w.heap.size < w1.heap.size:=(Array.getElem?_eq_some_iff.1 k0).1
 have l1:=cell_at k0 1 _ rfl
 have l2:=cell_at k0 3 _ rfl
 clear hw1 hb1 k0
 go_enter Tryz.func42,Tryz.ntmps42
 go_wp2_with fail
 rw [← HW1.out]
 go_cut [3,4] (fun p q wc=>∃ a b:Nat,p=.pointer (some ⟨a,0,none⟩)∧q=.pointer (some ⟨b,0,none⟩)∧wc.heap[a]?=some (.cells #[.string (mk [116]),.int .i64 x.elem] 82 (0,0))∧wc.heap[b]?=some (.cells #[.string (mk [116]),.slice pa x.parts.length pc] 138 (0,0))∧Below w1.heap.size w1 wc)
 case first =>
  go_region
  all_goals
   go_wp2_with fail
   go_meet
   case rel =>
    first
    | (obtain ⟨h1,h2,h3⟩:=alloc2 w1 #[.string (mk [116]),.slice pa x.parts.length pc] #[.string (mk [116]),.int .i64 x.elem] 138 82;exact ⟨_,_,rfl,rfl,h2,h1,h3⟩)
    | (obtain ⟨h1,h2,h3⟩:=alloc2 w1 #[.string (mk [116]),.int .i64 x.elem] #[.string (mk [116]),.slice pa x.parts.length pc] 82 138;exact ⟨_,_,rfl,rfl,h1,h2,h3⟩)
 case rest =>
  obtain ⟨a,b,rfl,rfl,ka,kb,hbc⟩:=hcut
  obtain ⟨wd,hwd⟩:∃ wd:World,wd=wc:=⟨_,rfl⟩
  subst hwd
  have k0:=(hbc.block _ hlt1).trans HK0.out
  have m0:=cell_at k0 0 _ rfl
  have m2:=cell_at k0 2 _ rfl
  have a0:=cell_at ka 0 _ rfl
  have a1:=cell_at ka 1 _ rfl
  have b0:=cell_at kb 0 _ rfl
  have b1:=cell_at kb 1 _ rfl
  have hbw:=HB1.out.trans (hbc.mono HB1.out.size)
  have HBW:=hid hbw
  have HTW:=hid (HT.out.on hbw)
  have HM:Hid (Pt.At wd (.marks 116 x.parts (.slice pa x.parts.length pc))):=⟨HM0.out.1.below hbw,HM0.out.2⟩
  clear l1 l2 k0 ka kb hbc hbw HB1 HK0 HT HW1 HM0
  by_cases q2:x.kind=2
  ·have HE1:=hid (HE.out.trans (congrArg _ (if_pos q2)))
   clear HE
   have HC:=hid (line_lit (w1:=wd) (l:=[.word (mk [116,121,112,101]),.word (mk [112,116,114]),.mark 116 x.elem]) (n:=3) (ty:=144) rfl (by decide) rfl (allc trivial (allc trivial (all1 H1.out))) (Nat.le_of_ble_eq_true rfl) HTW.out)
   rw [show wordsAll [.word (mk [116,121,112,101]),.word (mk [112,116,114]),.mark 116 x.elem]=tyW x from by rw [HE1.out];simp [wordsAll,Pt.words]] at HC
   exact q137x1
  have HE2:=hid (HE.out.trans (congrArg _ (if_neg q2)))
  clear HE
  by_cases q3:x.kind=3
  ·have HE1:=hid (HE2.out.trans (congrArg _ (if_pos q3)))
   clear HE2
   have HC:=hid (line_lit (w1:=wd) (l:=[.word (mk [116,121,112,101]),.word (mk [102,110]),.mark 116 x.elem,.marks 116 x.parts (.slice pa x.parts.length pc)]) (n:=4) (ty:=144) rfl (by decide) rfl (allc trivial (allc trivial (allc H1.out (all1 HM.out)))) (by have:=HM.out.2.1;simp [wordsAll,Pt.words];omega) HTW.out)
   rw [show wordsAll [.word (mk [116,121,112,101]),.word (mk [102,110]),.mark 116 x.elem,.marks 116 x.parts (.slice pa x.parts.length pc)]=tyW x from by rw [HE1.out];simp [wordsAll,Pt.words]] at HC
   exact q137x1
  have HE3:=hid (HE2.out.trans (congrArg _ (if_neg q3)))
  clear HE2
  by_cases q4:x.kind=4
  ·have HE1:=hid (HE3.out.trans (congrArg _ (if_pos q4)))
   clear HE3
   have HC:=hid (line_lit (w1:=wd) (l:=[.word (mk [116,121,112,101]),.word (mk [115,116,114,117,99,116]),.marks 116 x.parts (.slice pa x.parts.length pc)]) (n:=3) (ty:=144) rfl (by decide) rfl (allc trivial (allc trivial (all1 HM.out))) (by have:=HM.out.2.1;simp [wordsAll,Pt.words];omega) HTW.out)
   rw [show wordsAll [.word (mk [116,121,112,101]),.word (mk [115,116,114,117,99,116]),.marks 116 x.parts (.slice pa x.parts.length pc)]=tyW x from by rw [HE1.out];simp [wordsAll,Pt.words]] at HC
   exact q137x1
  have HE4:=hid (HE3.out.trans (congrArg _ (if_neg q4)))
  clear HE3
  by_cases q5:x.kind=5
  ·have HE1:=hid (HE4.out.trans (congrArg _ (if_pos q5)))
   clear HE4
   have HC:=hid (line_lit (w1:=wd) (l:=[.word (mk [116,121,112,101]),.word (mk [97,114,114,97,121]),.mark 116 x.elem,.num x.many]) (n:=4) (ty:=144) rfl (by decide) rfl (allc trivial (allc trivial (allc H1.out (all1 H2.out)))) (Nat.le_of_ble_eq_true rfl) HTW.out)
   rw [show wordsAll [.word (mk [116,121,112,101]),.word (mk [97,114,114,97,121]),.mark 116 x.elem,.num x.many]=tyW x from by rw [HE1.out];simp [wordsAll,Pt.words]] at HC
   exact q137x1
  have HE5:=hid (HE4.out.trans (congrArg _ (if_neg q5)))
  clear HE4
  have HE1:=HE5
  clear HE5
  have HC:=hid (line_lit (w1:=wd) (l:=[.word (mk [116,121,112,101]),.word (mk [105,110,116])]) (n:=2) (ty:=144) rfl (by decide) rfl (allc trivial (all1 trivial)) (Nat.le_of_ble_eq_true rfl) HTW.out)
  rw [show wordsAll [.word (mk [116,121,112,101]),.word (mk [105,110,116])]=tyW x from by rw [HE1.out];simp [wordsAll,Pt.words]] at HC
  exact q137x1
end Go.Proofs.YtbebficgcemkoaaGreatDoor.WkT
namespace Go.Proofs.YtbebficgcemkoaaGreatDoor.WkI
open Go.RowKit Go.Lib IntO SetP TyM ShM ShP LxM LxP LxJ RwO RgZ NumP WrM WrI WrP WkM WkA WkL WkT Aft

theorem elemP:Elem Tryz.prog 140 144 .nilIface 16:=⟨Tryz.underlying140,by kernel_rfl,rfl,by decide⟩
theorem val_one (p:Pt):p.val.oneCell'=true:=by cases p<;>rfl
theorem vals_one (l:List Pt):∀ u∈vals l,u.oneCell'=true:=by
 intro u hu
 obtain ⟨p,_,rfl⟩:=List.mem_map.1 hu
 exact val_one p
theorem vals_append (a b:List Pt):vals (a++b)=vals a++vals b:=by simp [vals]
theorem vals_len (l:List Pt):(vals l).length=l.length:=by simp [vals]
def phiP (l:List (Int × Int)):List Pt:=l.flatMap fun p=>[.mark 98 p.1,.mark 114 p.2]
theorem phiP_words (l:List (Int × Int)):wordsAll (phiP l)=pairW l:=by
 induction l with
 | nil=>rfl
 | cons p l ih =>
  have:phiP (p :: l)=.mark 98 p.1 :: .mark 114 p.2 :: phiP l:=rfl
  rw [this,wordsAll_cons,wordsAll_cons,ih]
  rfl
theorem phiP_len (l:List (Int × Int)):(phiP l).length=2 * l.length:=by
 induction l with
 | nil=>rfl
 | cons p l ih =>
  have:phiP (p :: l)=.mark 98 p.1 :: .mark 114 p.2 :: phiP l:=rfl
  rw [this,List.length_cons,List.length_cons,ih,List.length_cons]
  omega
theorem phiP_append (a b:List (Int × Int)):phiP (a++b)=phiP a++phiP b:=by simp [phiP]
theorem phiP_at (w:World) (l:List (Int × Int)) (h:∀ p∈l,I64 p.1∧I64 p.2):∀ p∈phiP l,p.At w:=by
 intro p hp
 obtain ⟨q,hq,h2⟩:=List.mem_flatMap.1 hp
 simp only [List.mem_cons,List.not_mem_nil,or_false] at h2
 rcases h2 with rfl | rfl
 ·exact (h q hq).1
 ·exact (h q hq).2
def ArgsR (x:Ix) (va:Value) (w:World) (e:Ending) (w' : World):Prop:=∃ u l,e=.returned u∧w'.ownsRow w.heap.size 144 1 u l.length (vals l)∧(∀ wy,IntsAt wy va x.args→∀ p∈l,p.At wy)∧wordsAll l=argW x∧l.length≤100∧Below w.heap.size w w'

theorem args_calls (x:Ix) (va vf:Value) (w:World) (ha:IntsAt w va x.args) (hf:IntsAt w vf x.frm) (hl:x.args.length≤40) (hlf:x.op=22→x.frm.length=x.args.length) (h1:∀ n∈x.args,I64 n) (h2:∀ n∈x.frm,I64 n) :
  Calls Tryz.prog 96 #[ixV x va vf] w (ArgsR x va w):=by
 obtain ⟨aa,ac,rfl,_⟩:=TyP.ints_slice ha
 obtain ⟨fa,fc,rfl,_⟩:=TyP.ints_slice hf
 have HA:=hid (And.intro ha (And.intro (show x.args.length≤1000 by omega) h1))
 have HF:=hid hf
 have HL:=hid hl
 have HLF:=hid hlf
 have HI1:=hid h1
 have HI2:=hid h2
 have HE:Hid (argW x=if x.op=22 then pairW (x.frm.zip x.args) else x.args.map (mkw 114)):=rfl
 clear ha hf hl hlf h1 h2
 obtain ⟨w1,hw1⟩:∃ X,X=w.alloc (.cells #[.int .u8 x.op,.int .i64 x.typ,.int .i64 x.a,.int .i64 x.b,.int .i64 x.n,.slice aa x.args.length ac,.slice fa x.frm.length fc] 57):=⟨_,rfl⟩
 have k0:w1.heap[w.heap.size]?=some (.cells #[.int .u8 x.op,.int .i64 x.typ,.int .i64 x.a,.int .i64 x.b,.int .i64 x.n,.slice aa x.args.length ac,.slice fa x.frm.length fc] 57 (0,0)):=by rw [hw1];exact heap_alloc_new _ _
 have hb1:Below w.heap.size w w1:=by rw [hw1];exact LxP.alloc_below _ _
 have HW1:=hid hw1
 have HB1:=hid hb1
 have l0:=later (cell_at k0 0 _ rfl)
 have l5:=later (cell_at k0 5 _ rfl)
 have l6:=later (cell_at k0 6 _ rfl)
 simp only [List.getElem_toArray,List.getElem_cons_zero,List.getElem_cons_succ] at l0 l5 l6
 have hr:Aft w1 w1:=Aft.refl w1
 clear hw1 hb1 k0
 go_enter Tryz.func96,Tryz.ntmps96
 by_cases q:x.op=22
 rotate_left
 ·have HE1:=hid (HE.out.trans (if_neg q))
  clear HE
  go_wp2_with fail
  rw [← HW1.out]
  go_wp2
  go_ret
  have hsz:w1.heap.size=w.heap.size+1:=by rw [HW1.out,World.size_alloc]
  exact ⟨_,[.marks 114 x.args (.slice aa x.args.length ac)],rfl,by rw [← hsz];exact LxP.owns_base (LxP.ownsRow_lit w1 [Pt.val (.marks 114 x.args (.slice aa x.args.length ac))] _ 1 rfl (by decide)) (by omega),(fun wy hy=>all1 ⟨hy,HA.out.2⟩),by rw [HE1.out];simp [wordsAll,Pt.words],by simp,HB1.out.trans ((LxP.alloc_below _ _).mono HB1.out.size)⟩
 have HE1:=hid (HE.out.trans (if_pos q))
 have hlen:=HLF.out q
 have HZ:Hid (∀ k (h:k < x.args.length) (h2:k < x.frm.length),phiP ((x.frm.zip x.args).take (k+1))=phiP ((x.frm.zip x.args).take k)++[.mark 98 x.frm[k],.mark 114 x.args[k]]):=fun k h h2=>by
  rw [List.take_succ_eq_append_getElem (by rw [List.length_zip];omega),List.getElem_zip,phiP_append]
  rfl
 have HLEN:=hid hlen
 clear HE HLF hlen
 rw [q] at HW1 l0
 go_wp2_with fail
 rw [← HW1.out]
 go_wp2
 go_loopg [3,4,5,17] x.args.length (fun gk v _ _ i wr=>∃ (k:Nat),k+gk=x.args.length∧i=.int .i64 k∧Hid (wr.ownsRow w1.heap.size 144 1 v (2 * k) (vals (phiP ((x.frm.zip x.args).take k))))∧Aft w1 wr)
 case atStart=>exact ⟨0,by omega,rfl,World.ownsRow_nil _ _ _ _,hr⟩
 case round =>
  obtain ⟨k,hk,rfl,HO,hw⟩:=hrel
  have HK:=hid hk
  clear hk
  by_cases hlt:k < x.args.length
  rotate_left
  ·obtain rfl:k=x.args.length:=by have:=HK.out;omega
   have hzl:(x.frm.zip x.args).length=x.args.length:=by rw [List.length_zip,HLEN.out,Nat.min_self]
   have HZA:Hid (∀ p∈x.frm.zip x.args,I64 p.1∧I64 p.2):=fun p hp=>⟨HI2.out _ (List.of_mem_zip hp).1,HI1.out _ (List.of_mem_zip hp).2⟩
   have HO2:=hid HO.out
   rw [List.take_of_length_le (by omega)] at HO2
   have hpl:2 * x.args.length=(phiP (x.frm.zip x.args)).length:=by rw [phiP_len,hzl]
   rw [hpl] at HO2
   have HPL:=hid hpl
   clear HO HZ hlt HA HF l0 l5 l6 hpl hzl HK
   have HPW:=hid (phiP_words (x.frm.zip x.args))
   have HPA:=hid (fun wy=>phiP_at wy _ HZA.out)
   have HPN:Hid ((phiP (x.frm.zip x.args)).length≤100):=by have:=HL.out;have:=HPL.out;show (phiP (x.frm.zip x.args)).length≤100;omega
   have hbw:=HB1.out.trans (hw.mono HB1.out.size)
   have HBW:=hid hbw
   generalize phiP (x.frm.zip x.args)=ps at *
   obtain ⟨p6,c6,rfl⟩:=own_form HO2.out
   generalize x.args.length=n1 at *
   go_wp2
   go_ret
   exact ⟨_,ps,rfl,LxP.owns_base HO2.out HB1.out.size,(fun wy _=>HPA.out wy),by rw [HE1.out,HPW.out],HPN.out,HBW.out⟩
  have hlt2:k < x.frm.length:=by have:=HLEN.out;omega
  have hbw:=HB1.out.trans (hw.mono HB1.out.size)
  obtain ⟨b1,o1,rfl,hb1,d1⟩:=TyP.ints_at (HA.out.1.below hbw) k hlt
  obtain ⟨b2,o2,rfl,hb2,d2⟩:=TyP.ints_at (HF.out.below hbw) k hlt2
  have HZK:=hid (HZ.out k hlt hlt2)
  have hki:(k:Int) < x.args.length:=by omega
  have hkf:(k:Int) < x.frm.length:=by omega
  have HKL:Hid (k≤40):=by have:=HL.out;show k≤40;omega
  have HK2:Hid (gk=x.args.length - k∧k < x.args.length):=⟨by have:=HK.out;omega,hlt⟩
  have HM1:Hid (I64 x.args[k]):=HI1.out _ (List.getElem_mem hlt)
  have HM2:Hid (I64 x.frm[k]):=HI2.out _ (List.getElem_mem hlt2)
  have HL2:=hid HLEN.out
  clear HZ hbw HK HI1 HI2 HA HF HLEN HL
  generalize x.args[k]=na at *
  generalize x.frm[k]=nf at *
  clear hlt hlt2
  generalize hn1:x.args.length=n1 at *
  generalize hn2:x.frm.length=n2 at *
  have HN1:=hid hn1
  clear hn1 hn2
  obtain ⟨va,vc,rfl⟩:=own_form HO.out
  have HCE:=hid (parts_lit (w:=wr) (l:=[.mark 98 nf,.mark 114 na]) (n:=2) rfl (by decide) rfl (allc HM2.out (all1 HM1.out)) 144).1
  go_wp2_with (at_builtin;refine wpList_append_list rfl (.tmp 22) (.tmp 33) elemP rfl w1.heap.size (.slice va (2 * k) vc) rfl (2 * k) _ (LxP.ownsRow_below HO.out (LxP.alloc_below _ _)) (by have:=HKL.out;omega) _ _ rfl HCE.out (vals_one _) (by simp [vals]) (by have:=hw.size;rw [World.size_alloc];omega) ?_)
  intro v6 w6 hown6 hgr6
  have hbk:Aft w1 w6:=(hw.alloc _).grown hgr6 (by have:=(hw.alloc (.cells #[Pt.val (.mark 98 nf),Pt.val (.mark 114 na)] 144)).size;exact this) (fun g hg=>(HO.out.lt g hg).1)
  obtain ⟨p6,c6,h60⟩:=own_form hown6
  subst h60
  rw [← vals_append,← HZK.out] at hown6
  have HO6:=hid hown6
  clear hown6 hgr6 HCE HO HZK HM1 HM2 d1 d2 hw
  go_wp2
  go_roundg (gk - 1)
  case measure=>have:=HK2.out;omega
  case rel=>exact ⟨k+1,by have:=HK2.out;omega,by go_num,HO6,hbk⟩
end Go.Proofs.YtbebficgcemkoaaGreatDoor.WkI
namespace Go.Proofs.YtbebficgcemkoaaGreatDoor.WkJ
open Go.RowKit Go.Lib IntO SetP TyM ShM ShP ShB LxM LxP LxJ RwO RgZ NumP WrM WrI WrP WkM WkA WkL WkT WkI Aft

def opsV:List Value:=RdM.wordsL.map fun s=>.string ⟨s.toArray⟩
def TabW (w:World):Prop:=w.rangeAt 0 0 opsV
theorem TabW.on {w w1:World} (h:TabW w) (hb:Below w.heap.size w w1):TabW w1:=fun j v hj=>ShP.keep_below hb (h j v hj)
theorem TabW.cell {w:World} (h:TabW w) {op:Int} (hk:1≤op∧op≤22):w.cell? ⟨0,op.toNat,none⟩=some (.string (opw op)):=by
 have hl:op.toNat < RdM.wordsL.length:=by show _ < 23;omega
 have hv:opsV[op.toNat]?=some (.string (opw op)):=by
  unfold opsV opw
  rw [List.getElem?_map,List.getElem?_eq_getElem hl,List.getD_eq_getElem?_getD,List.getElem?_eq_getElem hl]
  rfl
 have:=h _ _ hv
 rwa [Nat.zero_add] at this
def abL (x:Ix):List Int:=(if hasAB x.op=true then [x.a] else [])++(if twoB x.op=true then [x.b] else [])
theorem abL_words (x:Ix):(abL x).map (mkw 114)=abW x.op x.a x.b:=by
 unfold abL abW
 rw [List.map_append]
 split<;>split<;>rfl
theorem abL_len (x:Ix):(abL x).length≤2:=by
 unfold abL
 split<;>split<;>simp
theorem uses_take (x:Ix) (h:argsB x.op=false→x.args=[]):(usesOf x).length=(abL x).length+x.args.length∧(usesOf x).take (abL x).length=abL x:=by
 have e:usesOf x=abL x++x.args:=by
  unfold usesOf abL
  rw [List.append_assoc]
  congr 2
  by_cases hb:argsB x.op=true
  ·rw [if_pos hb]
  ·rw [if_neg hb,h (by simpa using hb)]
 rw [e,List.length_append,List.take_left]
 exact ⟨rfl,rfl⟩
def ansP (x:Ix) (reg:Int):List Pt:=if answersB x.op=true then [.mark 114 reg,.mark 116 x.typ,.word (mk [61])] else []
def numP (x:Ix):List Pt:=if x.op=1∨x.op=14 then [.num x.n] else if x.op=3∨x.op=18 then [.mark 102 x.n] else []
theorem ansP_len (x:Ix) (reg:Int):(ansP x reg).length≤3:=by unfold ansP;split<;>simp
theorem numP_len (x:Ix):(numP x).length≤1:=by unfold numP;(repeat' split)<;>simp
theorem ansP_at (w:World) (x:Ix) (reg:Int) (h1:I64 reg) (h2:I64 x.typ):∀ p∈ansP x reg,p.At w:=by
 unfold ansP
 split
 ·exact allc h1 (allc h2 (all1 trivial))
 ·intro p hp;cases hp
theorem abL_i64 {x:Ix} (h1:I64 x.a) (h2:I64 x.b):∀ n∈abL x,I64 n:=by
 intro n hn
 unfold abL at hn
 rcases List.mem_append.1 hn with hn | hn
 ·split at hn
  ·rw [List.mem_singleton.1 hn];exact h1
  ·cases hn
 ·split at hn
  ·rw [List.mem_singleton.1 hn];exact h2
  ·cases hn
theorem numP_at (w:World) (x:Ix) (h1:I64 x.n):∀ p∈numP x,p.At w:=by
 unfold numP
 split
 ·exact all1 h1
 ·split
  ·exact all1 h1
  ·intro p hp;cases hp
theorem ins_words (x:Ix) (reg:Int) (u:Value) (l:List Pt) (hl:wordsAll l=argW x):wordsAll (ansP x reg++([.word (opw x.op),.marks 114 (abL x) u]++(numP x++l)))=insW x reg:=by
 rw [wordsAll_append,wordsAll_append,wordsAll_append,hl]
 unfold insW hasW
 rw [← abL_words]
 unfold ansP numP numW
 have e1:wordsAll [.word (opw x.op),.marks 114 (abL x) u]=opw x.op :: (abL x).map (mkw 114):=by simp [wordsAll,Pt.words]
 rw [e1]
 rw [List.cons_append]
 congr 1
 ·split<;>rfl
 ·congr 3
  split
  ·rfl
  ·split<;>rfl
theorem pairW_len:∀ l:List (Int × Int),(pairW l).length=2 * l.length
 | []=>rfl
 | p :: l=>by unfold pairW;rw [List.length_cons,List.length_cons,pairW_len l,List.length_cons];omega
theorem insW_le (x:Ix) (reg:Int) (hl:x.args.length≤40):(insW x reg).length≤10000:=by
 rw [← ins_words x reg (.slice none 0 0) (if x.op=22 then phiP (x.frm.zip x.args) else [.marks 114 x.args (.slice none 0 0)]) (by
  unfold argW;split
  ·exact phiP_words _
  ·simp [wordsAll,Pt.words])]
 rw [wordsAll_append,wordsAll_append,wordsAll_append]
 have h1:(wordsAll (ansP x reg)).length≤3:=by unfold ansP;split<;>simp [wordsAll,Pt.words]
 have h2:(wordsAll (numP x)).length≤1:=by unfold numP;(repeat' split)<;>simp [wordsAll,Pt.words]
 have h3:(wordsAll (if x.op=22 then phiP (x.frm.zip x.args) else [.marks 114 x.args (.slice none 0 0)])).length≤80:=by
  split
  ·rw [phiP_words,pairW_len,List.length_zip];omega
  ·simp [wordsAll,Pt.words];omega
 have h4:(wordsAll [.word (opw x.op),.marks 114 (abL x) (.slice none 0 0)]).length≤3:=by have:=abL_len x;simp [wordsAll,Pt.words];omega
 simp only [List.length_append]
 omega
def RowI (w1:World) (v:Value) (l:List Pt) (w:World):Prop:=w.ownsRow w1.heap.size 144 1 v l.length (vals l)∧Aft w1 w
theorem RowI.more {w1 w w' : World} {v v' : Value} {l m:List Pt} {n:Nat} (h:RowI w1 v l w) (ho:w'.ownsRow w1.heap.size 144 1 v' n (vals l++vals m)) (hn:n=l.length+m.length) (hg:w.grownBy w' v.ownBlock):RowI w1 v' (l++m) w':=by
 subst hn
 refine ⟨?_,h.2.grown hg h.2.size (fun g hg=>(h.1.lt g hg).1)⟩
 rw [List.length_append,vals_append]
 exact ho
theorem RowI.on {w1 w w' : World} {v:Value} {l:List Pt} (h:RowI w1 v l w) (hb:Below w.heap.size w w'):RowI w1 v l w':=⟨LxP.ownsRow_below h.1 hb,h.2.go hb⟩

theorem lit_cells (w:World) (cs:List Value) (ty:TypeId) (j:Nat) (u:Value) (h:cs[j]?=some u):(w.alloc (.cells cs.toArray ty)).cell? ⟨w.heap.size,j,none⟩=some u:=by
 obtain ⟨h1,h2⟩:=List.getElem?_eq_some_iff.1 h
 have:=(ShTB.cells_heap (heap_alloc_new w (.cells cs.toArray ty))).1 j (by simpa using h1)
 rw [this]
 simpa using h2
def ptV (p:Pt):List Value:=[p.val]
theorem ptW:Wide ptV 1:=fun _=>rfl
theorem ptRow (l:List Pt):rowOf ptV l=vals l:=by
 induction l with
 | nil=>rfl
 | cons x l ih=>rw [rowOf_cons,ih];rfl
theorem uses_kept {w w' : World} {B n m:Nat} {v u:Value} {xs ys:List Value} (h:w.ownsRow B 3 1 v n xs) (ho:w.ownsRow B 144 1 u m ys) (hg:w.grownBy w' u.ownBlock):w'.ownsRow B 3 1 v n xs:=own_kept h ho (by decide) hg
theorem uses_at {w:World} {B n c k:Nat} {a:Option Addr} {l m:List Int} (h:w.ownsRow B 3 1 (.slice a n c) n (intVals l)) (hl:l.length≤1000) (hm:l.take k=m) (hk:k≤l.length):IntsAt w (.slice a k c) m:=by
 subst hm
 have h1:=intsAt_of_owns h (by omega)
 obtain ⟨ao,cap,hv,h2,h3,h4,h5⟩:=h1
 cases hv
 have hlen:(l.take k).length=k:=by rw [List.length_take];omega
 refine ⟨a,c,by rw [hlen],by omega,fun h0=>?_,h4,by omega⟩
 obtain ⟨b,off,ha,hb,hc⟩:=h3 (by omega)
 refine ⟨b,off,ha,hb,fun i hi=>?_⟩
 rw [List.getElem_take]
 exact hc i (by omega)

theorem q133x1 {P:Prop} (h:P:=by
 obtain ⟨PP,hPP⟩:∃ PP,PP=ansP x reg++(P1++numP x):=⟨_,rfl⟩
 rw [← hPP] at HR8 ⊢
 have HPP:=hid hPP
 have hpl:PP.length≤10:=by rw [hPP,HP1.out,List.length_append,List.length_append];have:=ansP_len x reg;have:=numP_len x;simp;omega
 have HPL:=hid hpl
 clear hPP hpl
 go_wp2_with fail
 refine (HCG.out w7 h8).mono ?_
 rintro e w9 ⟨ug,lg,rfl,hog,hag,hwg,hlg,hb9⟩
 have HR9:=hid (HR8.out.on hb9)
 have HU9:=hid (LxP.ownsRow_below HU8.out hb9)
 obtain ⟨pg,cg,rfl⟩:=own_form hog
 have HLG:=hid (list_of_owns hog (by rw [vals_len];omega))
 have HAG:=hid hag
 have HWG:=hid hwg
 have HNG:=hid hlg
 have HH8:=hid h8
 have hz9:=HR9.out.2.size
 clear hog hag hwg hlg HR8 HU8 h8 hb9
 go_wp2_with (at_builtin;refine wpList_append_list rfl (.tmp 62) (.tmp 64) elemP rfl w1.heap.size (.slice p8 PP.length c8) rfl _ _ HR9.out.1 (by have:=HPL.out;omega) _ _ rfl HLG.out (vals_one _) (by have:=HNG.out;rw [vals_len];omega) hz9 ?_)
 intro v10 w10 hown10 hgr10
 have HR10:=hid (HR9.out.more (m:=lg) hown10 (by rw [vals_len]) hgr10)
 have HU10:=hid (uses_kept HU9.out HR9.out.1 hgr10)
 obtain ⟨p10,c10,h100⟩:=own_form HR10.out.1
 subst h100
 have h10:Aft w1 w10:=HR10.out.2
 have hla:IntsAt w10 (.slice aa n2 ac) x.args:=HVA.out.below (HB1.out.trans (Below.mono h10 HB1.out.size))
 have HPA:Hid (PartsAt w10 (.slice p10 (PP++lg).length c10) (PP++lg)):=by
  refine ⟨list_of_owns HR10.out.1 (by rw [vals_len];simp;have:=HPL.out;have:=HNG.out;omega),fun p hp=>?_⟩
  rcases List.mem_append.1 hp with hp | hp
  ·rw [HPP.out] at hp
   rcases List.mem_append.1 hp with hp | hp
   ·exact ansP_at w10 x reg HI.out.2.2.2.2 HI.out.1 p hp
   rcases List.mem_append.1 hp with hp | hp
   ·rw [HP1.out] at hp
    simp only [List.mem_cons,List.not_mem_nil,or_false] at hp
    rcases hp with rfl | rfl
    ·exact trivial
    ·exact ⟨uses_at (HN1.out ▸ HU10.out) (by have:=HUL.out.1;have:=abL_len x;have:=HL.out;have:=HN1.out;omega) (by rw [HKK.out];exact HUL.out.2) (by rw [HKK.out];have:=HUL.out.1;have:=HN1.out;omega),by have:=abL_len x;omega,abL_i64 HI.out.2.1 HI.out.2.2.1⟩
   ·exact numP_at w10 x HI.out.2.2.2.1 p hp
  ·exact HAG.out w10 hla p hp
 have HWD:Hid (wordsAll (PP++lg)=insW x reg):=by
  show wordsAll (PP++lg)=_
  rw [← ins_words x reg (.slice ua kk uc) lg HWG.out,HPP.out,HP1.out,List.append_assoc,List.append_assoc]
 have HC:=hid (line_calls _ _ w10 HPA.out (by rw [HWD.out];exact HIL.out) (HTW.out w10 h10))
 rw [HWD.out] at HC
 have HBF:=hid (HB1.out.trans (Below.mono h10 HB1.out.size))
 clear hown10 hgr10 HR9 HU9 HR10 HU10 HPA HWD HLG HAG HWG HNG hz9 hla h10 HVA
 generalize (PP++lg).length=nl at *
 generalize (insW x reg).length=ni at *
 go_wp2_with fail
 refine HC.out.mono ?_
 rintro e w11 ⟨u,rfl,ho,hb⟩
 obtain ⟨pu,cu,rfl⟩:=own_form ho
 have HF:=hid (LineR.up ⟨_,rfl,ho,hb⟩ HBF.out)
 clear HC ho hb HBF
 go_wp2
 go_ret
 exact HF.out):P:=h
theorem ins_calls (x:Ix) (reg:Int) (va vf:Value) (w:World) (h0:1≤x.op∧x.op≤22) (ha:IntsAt w va x.args) (hf:IntsAt w vf x.frm) (hl:x.args.length≤40) (hlf:x.op=22→x.frm.length=x.args.length) (hag:argsB x.op=false→x.args=[])
  (i1:∀ n∈x.args,I64 n) (i2:∀ n∈x.frm,I64 n) (i3:I64 x.typ) (i4:I64 x.a) (i5:I64 x.b) (i6:I64 x.n) (i7:I64 reg) (ht:NumL.Tab w) (hs:ShA.Tab w) (ho:TabW w) :
  Calls Tryz.prog 44 #[ixV x va vf,.int .i64 reg] w (LineR (insW x reg) w):=by
 obtain ⟨aa,ac,rfl,_⟩:=TyP.ints_slice ha
 obtain ⟨fa,fc,rfl,_⟩:=TyP.ints_slice hf
 obtain ⟨w1,hw1⟩:∃ X,X=w.alloc (.cells #[.int .u8 x.op,.int .i64 x.typ,.int .i64 x.a,.int .i64 x.b,.int .i64 x.n,.slice aa x.args.length ac,.slice fa x.frm.length fc] 57):=⟨_,rfl⟩
 have k0:w1.heap[w.heap.size]?=some (.cells #[.int .u8 x.op,.int .i64 x.typ,.int .i64 x.a,.int .i64 x.b,.int .i64 x.n,.slice aa x.args.length ac,.slice fa x.frm.length fc] 57 (0,0)):=by rw [hw1];exact heap_alloc_new _ _
 have hb1:Below w.heap.size w w1:=by rw [hw1];exact LxP.alloc_below _ _
 have HCA:=hid (fun wx (hx:Aft w1 wx)=>ShA.answers_calls x.op (by omega) (by omega) wx (hs.on (hb1.trans (Below.mono hx hb1.size))))
 have HCU:=hid (fun wx (hx:Aft w1 wx)=>ShU.uses_calls x (.slice aa x.args.length ac) (.slice fa x.frm.length fc) wx (by omega) (by omega) (hs.on (hb1.trans (Below.mono hx hb1.size))) (ha.below (hb1.trans (Below.mono hx hb1.size))) (by omega) ⟨_,_,_,rfl⟩)
 have HCG:=hid (fun wx (hx:Aft w1 wx)=>args_calls x (.slice aa x.args.length ac) (.slice fa x.frm.length fc) wx (ha.below (hb1.trans (Below.mono hx hb1.size))) (hf.below (hb1.trans (Below.mono hx hb1.size))) hl hlf i1 i2)
 have HUT:=hid (uses_take x hag)
 have HVA:=hid ha
 have HIL:=hid (insW_le x reg hl)
 have HTW:=hid (fun wx (hx:Aft w1 wx)=>ht.on (hb1.trans (Below.mono hx hb1.size)))
 have HL:=hid hl
 obtain ⟨k,hk⟩:∃ k:Nat,x.op=(k:Int):=⟨x.op.toNat,by omega⟩
 have HK:=hid hk
 have HKR:Hid (1≤k∧k≤22):=by show 1≤k∧k≤22;omega
 have lg:∀ wx,Aft w1 wx→wx.cell? ⟨0,k,none⟩=some (.string (opw x.op)):=fun wx hx=>by
  have:=(ho.on (hb1.trans (Below.mono hx hb1.size))).cell h0
  rw [show x.op.toNat=k by omega] at this
  exact this
 have HI:=hid (And.intro i3 (And.intro i4 (And.intro i5 (And.intro i6 i7))))
 have HW1:=hid hw1
 have HB1:=hid hb1
 have hr:Aft w1 w1:=Aft.refl w1
 have l0:=later (cell_at k0 0 _ rfl)
 have l1:=later (cell_at k0 1 _ rfl)
 have l2:=later (cell_at k0 2 _ rfl)
 have l3:=later (cell_at k0 3 _ rfl)
 have l4:=later (cell_at k0 4 _ rfl)
 have l5:=later (cell_at k0 5 _ rfl)
 have l6:=later (cell_at k0 6 _ rfl)
 simp only [List.getElem_toArray,List.getElem_cons_zero,List.getElem_cons_succ] at l0 l1 l2 l3 l4 l5 l6
 have hix:ixV x (.slice aa x.args.length ac) (.slice fa x.frm.length fc)=.agg #[.int .u8 (k:Int),.int .i64 x.typ,.int .i64 x.a,.int .i64 x.b,.int .i64 x.n,.slice aa x.args.length ac,.slice fa x.frm.length fc]:=by
  show Value.agg #[.int .u8 x.op,_,_,_,_,_,_]=_
  rw [hk]
 rw [hk] at l0 HCA HW1
 rw [hix] at HCU HCG ⊢
 clear hk hix
 clear hw1 hb1 k0 ht hs ho ha hf hl hlf hag i1 i2 i3 i4 i5 i6 i7 h0
 go_enter Tryz.func44,Tryz.ntmps44
 go_wp2_with fail
 rw [← HW1.out]
 refine (HCA.out w1 hr).mono ?_
 rintro e w2 ⟨rfl,hb2⟩
 have h2:=hr.go hb2
 clear hb2 hr HCA
 have HAB:Hid (ansP x reg=if answersB (k:Int)=true then [.mark 114 reg,.mark 116 x.typ,.word (mk [61])] else []):=by rw [← HK.out];exact rfl
 generalize answersB (k:Int)=ab at *
 go_upto_if 9 with fail
 go_cut [5] (fun v wc=>RowI w1 v (ansP x reg) wc)
 case first =>
  cases ab with
  | false =>
   have HA:Hid (ansP x reg=[]):=HAB.out
   clear HCU HCG HAB
   go_wp2_with fail
   go_meet
   case rel=>rw [HA.out];exact ⟨World.ownsRow_nil _ _ _ _,h2⟩
  | true =>
   have HA:Hid (ansP x reg=[.mark 114 reg,.mark 116 x.typ,.word (mk [61])]):=HAB.out
   have HCE:=hid (parts_lit (w:=w2) (l:=[.mark 114 reg,.mark 116 x.typ,.word (mk [61])]) (n:=3) rfl (by decide) rfl (allc HI.out.2.2.2.2 (allc HI.out.1 (all1 trivial))) 144).1
   have hsz:w1.heap.size≤(w2.alloc (.cells (vals [.mark 114 reg,.mark 116 x.typ,.word (mk [61])]).toArray 144)).heap.size:=(h2.alloc _).size
   have hz:RowI w1 (.slice none 0 0) [] (w2.alloc (.cells (vals [.mark 114 reg,.mark 116 x.typ,.word (mk [61])]).toArray 144)):=⟨World.ownsRow_nil _ _ _ _,h2.alloc _⟩
   have HZ:=hid hz
   clear hz HCU HCG HAB
   go_wp2_with (at_builtin;refine wpList_append_list rfl (.tmp 10) (.tmp 19) elemP rfl w1.heap.size (.slice none 0 0) rfl 0 [] (World.ownsRow_nil _ _ _ _) (by decide) _ _ rfl HCE.out (vals_one _) (by simp [vals]) hsz ?_)
   intro v6 w6 hown6 hgr6
   have HR6:=hid (HZ.out.more (m:=[.mark 114 reg,.mark 116 x.typ,.word (mk [61])]) hown6 rfl hgr6)
   obtain ⟨p6,c6,h60⟩:=own_form hown6
   subst h60
   clear hown6 hgr6 HZ hsz HCE h2
   go_wp2_with fail
   go_meet
   case rel=>rw [HA.out];exact HR6.out
 case rest =>
  obtain ⟨w3,hw3⟩:∃ wd:World,wd=wc:=⟨_,rfl⟩
  subst hw3
  obtain ⟨ra,rc,rfl⟩:=own_form hcut.1
  have HR3:=hid hcut
  have h3:=hcut.2
  clear hcut h2 HAB
  go_wp2_with fail
  refine (HCU.out w3 h3).mono ?_
  rintro e w4 ⟨uv,un,rfl,hou,hb4⟩
  obtain rfl:un=(usesOf x).length:=by have:=LxP.own_len hou;rw [this,intVals_length]
  obtain ⟨ua,uc,rfl⟩:=own_form hou
  have HR4:=hid (HR3.out.on hb4)
  have HU4:=hid (LxP.owns_base hou h3.size)
  have h4:=h3.go hb4
  clear HR3 h3 hou hb4 HCU
  go_upto_region 5 with fail
  have HUL:=hid HUT.out
  have hwr:IntKind.i64.wrap (((usesOf x).length:Int) - (x.args.length:Int))=(((abL x).length:Nat):Int):=by
   have h1:=HUL.out.1;have h2:=abL_len x;have h3:=HL.out
   rw [IntWalk.i64_in _ (by omega)];omega
  have hck:(((abL x).length:Nat):Int)≤(uc:Int):=by
   have h1:=HUL.out.1
   have h2:(usesOf x).length≤uc:=TyP.ints_cap (intsAt_of_owns HU4.out (by have:=HUL.out.1;have:=abL_len x;have:=HL.out;omega))
   omega
  have hk0:(0:Int)≤(((abL x).length:Nat):Int):=by omega
  have hkn:(0:Int)≤(k:Int):=by omega
  have hk2:(k:Int) < 23:=by have:=HKR.out;omega
  have hd4:=Aft.drew h4
  obtain ⟨kk,hkk⟩:∃ kk,kk=(abL x).length:=⟨_,rfl⟩
  rw [← hkk] at hwr hck hk0
  have HKK:=hid hkk
  clear hkk
  generalize hn1:(usesOf x).length=n1 at *
  generalize hn2:x.args.length=n2 at *
  generalize hn3:(ansP x reg).length=n3 at *
  have HN1:=hid hn1
  have HN2:=hid hn2
  have HN3:=hid hn3
  clear hn1 hn2 hn3
  refine wp_region_noPanic ?_
  refine wp_region_Z (S:=(fun w'=>Aft w1 w')) (Z:=[]) (by kernel_rfl) ?_ (fun hHeld=>?_)
  ·exact hd4
  refine zP 0 rfl ?_
  refine zP 1 rfl ?_
  refine zT 2 rfl ?_
  refine zP 3 rfl ?_
  refine zT 4 rfl ?_
  refine zP 5 rfl ?_
  refine zP 6 rfl ?_
  refine zP 7 rfl ?_
  refine zP 8 rfl ?_
  refine zP 9 rfl ?_
  refine zT 10 rfl ?_
  refine zP 11 rfl ?_
  refine zP 12 rfl ?_
  refine zP 13 rfl ?_
  refine zP 14 rfl ?_
  refine zP 15 rfl ?_
  refine zC 16 rfl (fun K hK=>?_)
  go_simp
  refine hK.out _ _ ?_ (fun hHeld=>?_)
  ·exact hd4.alloc _
  clear hK K
  refine zC 17 rfl (fun K hK=>?_)
  rw [if_pos (by rfl)]
  obtain ⟨P1,hP1⟩:∃ P1:List Pt,P1=[.word (opw x.op),.marks 114 (abL x) (.slice ua kk uc)]:=⟨_,rfl⟩
  have hb5:=(Below.refl w4.heap.size w4).drew.alloc (Nat.le_refl _) (.cells (vals P1).toArray 144)
  rw [hP1] at hb5
  have HR5:=hid (HR4.out.on hb5)
  have HU5:=hid (LxP.ownsRow_below HU4.out hb5)
  refine wp_append_row ptW (by decide) elemP.info Tryz.underlying140 rfl (.tmp 23) (.tmp 39) rfl w1.heap.size (.slice ra n3 rc) rfl n3 (vals (ansP x reg)) (by rw [← HN3.out];have:=HR5.out.1;rw [HN3.out] at this ⊢;exact this) w4.heap.size 0 2 2 P1 (by rw [hP1];rfl) rfl (fun z hz v hv=>by obtain rfl:=List.mem_singleton.1 hv;exact val_one z) ?_ (by have:=ansP_len x reg;have:=HN3.out;rw [hP1];unfold maxLen;simp;omega) (by have:=ansP_len x reg;have:=HN3.out;rw [hP1];simp;omega) HR5.out.2.size ?_
  ·intro j u hj
   rw [ptRow] at hj
   rw [Nat.zero_add]
   rw [hP1] at hj
   exact lit_cells w4 _ _ j u hj
  intro v6 w6 hown6 hgr6
  rw [ptRow] at hown6
  have HR6:=hid (HR5.out.more (m:=P1) hown6 (by rw [HN3.out,hP1];rfl) hgr6)
  have HU6:=hid (uses_kept HU5.out HR5.out.1 hgr6)
  obtain ⟨p6,c6,h60⟩:=own_form hown6
  subst h60
  have h6:Aft w1 w6:=HR6.out.2
  have HP1:=hid hP1
  clear hown6 hgr6 HR5 HU5 hb5 HR4 HU4 hP1
  refine hK.out _ _ ?_ (fun hHeld=>?_)
  ·exact h6
  clear hK K
  refine zP 18 rfl ?_
  refine wpAnyZ_done (by kernel_rfl) ?_ _
  refine NoPanic.normal ?_
  clear hHeld hwr hck hk0 hd4 h4 lg
  have HL6:Hid ((ansP x reg++P1).length≤10):=by have:=ansP_len x reg;rw [HP1.out];show (_:Nat)≤10;simp;omega
  rw [show n3+2=(ansP x reg++P1).length by rw [HP1.out,List.length_append,HN3.out];rfl] at HR6 ⊢
  generalize hn6:(ansP x reg++P1).length=n6 at *
  have HN6:=hid hn6
  clear hn6
  by_cases q1:k=1
  ·have HNP:Hid (numP x=[.num x.n]):=by show numP x=_;unfold numP;rw [if_pos (by have:=HK.out;omega)]
   have e1:((k:Int) == 1)=true:=by simp;omega
   clear q1
   have HCE:=hid (parts_lit (w:=w6) (l:=[.num x.n]) (n:=1) rfl (by decide) rfl (all1 HI.out.2.2.2.1) 144).1
   have HR7:=hid (HR6.out.on (LxP.alloc_below w6 (.cells (vals [.num x.n]).toArray 144)))
   have HU7:=hid (LxP.ownsRow_below HU6.out (LxP.alloc_below w6 (.cells (vals [.num x.n]).toArray 144)))
   go_wp2_with (at_builtin;refine wpList_append_list rfl (.tmp 46) (.tmp 50) elemP rfl w1.heap.size _ rfl _ _ HR7.out.1 (by have:=HL6.out;have:=HN6.out;omega) _ _ rfl HCE.out (vals_one _) (by simp [vals]) HR7.out.2.size ?_)
   intro v7 w7 hown7 hgr7
   have HR8:=hid (HR7.out.more (m:=[.num x.n]) hown7 (by simp [vals]<;>omega) hgr7)
   have HU8:=hid (uses_kept HU7.out HR7.out.1 hgr7)
   have hm8:ansP x reg++P1++[.num x.n]=ansP x reg++(P1++numP x):=by rw [HNP.out,List.append_assoc]
   rw [hm8] at HR8
   obtain ⟨p8,c8,h80⟩:=own_form HR8.out.1
   subst h80
   have h8:Aft w1 w7:=HR8.out.2
   clear hown7 hgr7 HR7 HU7 HCE HR6 HU6 h6 hm8
   exact q133x1
  by_cases q14:k=14
  ·have HNP:Hid (numP x=[.num x.n]):=by show numP x=_;unfold numP;rw [if_pos (by have:=HK.out;omega)]
   have e1:((k:Int) == 1)=false:=by simp;omega
   have e14:((k:Int) == 14)=true:=by simp;omega
   clear q14 q1
   have HCE:=hid (parts_lit (w:=w6) (l:=[.num x.n]) (n:=1) rfl (by decide) rfl (all1 HI.out.2.2.2.1) 144).1
   have HR7:=hid (HR6.out.on (LxP.alloc_below w6 (.cells (vals [.num x.n]).toArray 144)))
   have HU7:=hid (LxP.ownsRow_below HU6.out (LxP.alloc_below w6 (.cells (vals [.num x.n]).toArray 144)))
   go_wp2_with (at_builtin;refine wpList_append_list rfl (.tmp 46) (.tmp 50) elemP rfl w1.heap.size _ rfl _ _ HR7.out.1 (by have:=HL6.out;have:=HN6.out;omega) _ _ rfl HCE.out (vals_one _) (by simp [vals]) HR7.out.2.size ?_)
   intro v7 w7 hown7 hgr7
   have HR8:=hid (HR7.out.more (m:=[.num x.n]) hown7 (by simp [vals]<;>omega) hgr7)
   have HU8:=hid (uses_kept HU7.out HR7.out.1 hgr7)
   have hm8:ansP x reg++P1++[.num x.n]=ansP x reg++(P1++numP x):=by rw [HNP.out,List.append_assoc]
   rw [hm8] at HR8
   obtain ⟨p8,c8,h80⟩:=own_form HR8.out.1
   subst h80
   have h8:Aft w1 w7:=HR8.out.2
   clear hown7 hgr7 HR7 HU7 HCE HR6 HU6 h6 hm8
   exact q133x1
  by_cases q3:k=3
  ·have HNP:Hid (numP x=[.mark 102 x.n]):=by show numP x=_;unfold numP;rw [if_neg (by have:=HK.out;omega),if_pos (by have:=HK.out;omega)]
   have e1:((k:Int) == 1)=false:=by simp;omega
   have e14:((k:Int) == 14)=false:=by simp;omega
   have e3:((k:Int) == 3)=true:=by simp;omega
   clear q3 q1 q14
   have HCE:=hid (parts_lit (w:=w6) (l:=[.mark 102 x.n]) (n:=1) rfl (by decide) rfl (all1 HI.out.2.2.2.1) 144).1
   have HR7:=hid (HR6.out.on (LxP.alloc_below w6 (.cells (vals [.mark 102 x.n]).toArray 144)))
   have HU7:=hid (LxP.ownsRow_below HU6.out (LxP.alloc_below w6 (.cells (vals [.mark 102 x.n]).toArray 144)))
   go_wp2_with (at_builtin;refine wpList_append_list rfl (.tmp 55) (.tmp 60) elemP rfl w1.heap.size _ rfl _ _ HR7.out.1 (by have:=HL6.out;have:=HN6.out;omega) _ _ rfl HCE.out (vals_one _) (by simp [vals]) HR7.out.2.size ?_)
   intro v7 w7 hown7 hgr7
   have HR8:=hid (HR7.out.more (m:=[.mark 102 x.n]) hown7 (by simp [vals]<;>omega) hgr7)
   have HU8:=hid (uses_kept HU7.out HR7.out.1 hgr7)
   have hm8:ansP x reg++P1++[.mark 102 x.n]=ansP x reg++(P1++numP x):=by rw [HNP.out,List.append_assoc]
   rw [hm8] at HR8
   obtain ⟨p8,c8,h80⟩:=own_form HR8.out.1
   subst h80
   have h8:Aft w1 w7:=HR8.out.2
   clear hown7 hgr7 HR7 HU7 HCE HR6 HU6 h6 hm8
   exact q133x1
  by_cases q18:k=18
  ·have HNP:Hid (numP x=[.mark 102 x.n]):=by show numP x=_;unfold numP;rw [if_neg (by have:=HK.out;omega),if_pos (by have:=HK.out;omega)]
   have e1:((k:Int) == 1)=false:=by simp;omega
   have e14:((k:Int) == 14)=false:=by simp;omega
   have e3:((k:Int) == 3)=false:=by simp;omega
   have e18:((k:Int) == 18)=true:=by simp;omega
   clear q18 q1 q14 q3
   have HCE:=hid (parts_lit (w:=w6) (l:=[.mark 102 x.n]) (n:=1) rfl (by decide) rfl (all1 HI.out.2.2.2.1) 144).1
   have HR7:=hid (HR6.out.on (LxP.alloc_below w6 (.cells (vals [.mark 102 x.n]).toArray 144)))
   have HU7:=hid (LxP.ownsRow_below HU6.out (LxP.alloc_below w6 (.cells (vals [.mark 102 x.n]).toArray 144)))
   go_wp2_with (at_builtin;refine wpList_append_list rfl (.tmp 55) (.tmp 60) elemP rfl w1.heap.size _ rfl _ _ HR7.out.1 (by have:=HL6.out;have:=HN6.out;omega) _ _ rfl HCE.out (vals_one _) (by simp [vals]) HR7.out.2.size ?_)
   intro v7 w7 hown7 hgr7
   have HR8:=hid (HR7.out.more (m:=[.mark 102 x.n]) hown7 (by simp [vals]<;>omega) hgr7)
   have HU8:=hid (uses_kept HU7.out HR7.out.1 hgr7)
   have hm8:ansP x reg++P1++[.mark 102 x.n]=ansP x reg++(P1++numP x):=by rw [HNP.out,List.append_assoc]
   rw [hm8] at HR8
   obtain ⟨p8,c8,h80⟩:=own_form HR8.out.1
   subst h80
   have h8:Aft w1 w7:=HR8.out.2
   clear hown7 hgr7 HR7 HU7 HCE HR6 HU6 h6 hm8
   exact q133x1
  ·have HNP:Hid (numP x=[]):=by show numP x=_;unfold numP;rw [if_neg (by have:=HK.out;omega),if_neg (by have:=HK.out;omega)]
   have e1:((k:Int) == 1)=false:=by simp;omega
   have e14:((k:Int) == 14)=false:=by simp;omega
   have e3:((k:Int) == 3)=false:=by simp;omega
   have e18:((k:Int) == 18)=false:=by simp;omega
   clear q1 q14 q3 q18
   have HR8:=HR6
   have HU8:=HU6
   have hm8:ansP x reg++P1=ansP x reg++(P1++numP x):=by rw [HNP.out,List.append_nil]
   rw [← HN6.out] at HR8 ⊢
   rw [hm8] at HR8 ⊢
   obtain ⟨p8,hp8⟩:∃ p8,p8=p6:=⟨_,rfl⟩
   subst hp8
   obtain ⟨c8,hc8⟩:∃ c8,c8=c6:=⟨_,rfl⟩
   subst hc8
   obtain ⟨w7,hw7⟩:∃ w7,w7=w6:=⟨_,rfl⟩
   subst hw7
   have h8:Aft w1 w7:=HR8.out.2
   clear HR6 HU6 h6 hm8
   exact q133x1
end Go.Proofs.YtbebficgcemkoaaGreatDoor.WkJ
