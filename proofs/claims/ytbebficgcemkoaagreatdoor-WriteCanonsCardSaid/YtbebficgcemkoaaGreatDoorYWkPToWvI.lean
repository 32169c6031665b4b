/- Walk over the writer's program: all lines. A program's own lines are not too great to be joined. Walk over write.Write. Walk over write.Canon. Walks over fescueref08.kind and end. Walk over fescueref08.ins. -/
import Derived.Test.YtbebficgcemkoaaGreatDoorYWkTToWkJ
import Derived.Test.YtbebficgcemkoaaGreatDoorYRcYToWrT
import Derived.Test.YtbebficgcemkoaaGreatDoorYLxCToLxV
import Derived.Test.YtbebficgcemkoaaGreatDoorYWvM
import Derived.Deep.RegionHeld3
import Derived.Test.YtbebficgcemkoaaGreatDoorYShBToShV
import Derived.Test.YtbebficgcemkoaaGreatDoorYRdAToWkA
set_option maxRecDepth 100000
set_option maxHeartbeats 16000000
namespace Go.Proofs.YtbebficgcemkoaaGreatDoor.WkP
open Go.RowKit Go.Lib IntO SetP TyM TyP ShM ShP ShB LxM LxP LxJ RwO RgZ RdV RdM RdN NumP WrM WrI WrP WkM WkA WkL WkT WkI WkJ WkF Aft

def LnS (w1:World) (u:Value) (L:List Ln) (w:World):Prop:=(∃ r:List Rw,OwnL w1.heap.size u r w∧r.map Prod.fst=L)∧Aft w1 w
theorem LnS.on {w1 w w' : World} {u:Value} {L:List Ln} (h:LnS w1 u L w) (hb:Below w.heap.size w w'):LnS w1 u L w':=by
 obtain ⟨⟨r,h1,h2⟩,h3⟩:=h
 exact ⟨⟨r,h1.below hb,h2⟩,h3.go hb⟩
theorem LnS.nil (w:World):LnS w (.slice none 0 0) [] w:=⟨⟨[],OwnL.nil _ _,rfl⟩,Aft.refl w⟩
def KeepL (w w' : World):Prop:=∀ (j:Nat) (cs:Array Value) (ty:TypeId) (fr:Nat × Nat),¬ ty=74→w.heap[j]?=some (.cells cs ty fr)→w'.heap[j]?=some (.cells cs ty fr)
theorem wpList_append_line {ops:Array Oper} {rest:List Oper} {o:Oper} {a:Act} {w' : World} {Q:Exit→Act→World→Prop} (hgd:o.guard=none) (s x:Operand)
  (ho:o.op=.call { callee:=.builtin .append,args:=#[s,x],argTypes:=#[44,44] })
  {w1:World} {u lv:Value} {L:List Ln} {ws:List ByteArray} (hS:LnS w1 u L w') (hs:a.eval s=u) (hx:a.eval x=.slice (some ⟨w'.heap.size,0,none⟩) 1 1) (hl:w'.ownsRow w1.heap.size 9 1 lv ws.length (strs ws)) (hn:L.length≤100000)
  (h:∀ v' w6,LnS w1 v' (L++[ws]) w6→KeepL w' w6→wpList Tryz.prog ops Q rest (a.put o.dst v') w6):wpList Tryz.prog ops Q (o :: rest) a (w'.alloc (.cells #[lv] 74)):=by
 obtain ⟨⟨r,h1,h2⟩,h3⟩:=hS
 have hb:=LxP.alloc_below w' (.cells #[lv] 74)
 have h4:=h1.below hb
 have h5:=LxP.ownsRow_below hl hb
 obtain ⟨pa,ca,rfl⟩:=own_form hl
 have hrl:r.length=L.length:=by rw [← h2,List.length_map]
 refine wpList_append_one hgd s x elemL ho w1.heap.size u hs r.length (r.map Prod.snd) h4.1 (by omega) w'.heap.size _ hx ((ShTB.cells_heap (heap_alloc_new w' _)).1 0 (by simp)) (by rw [World.size_alloc];omega) rfl (by have:=h3.size;rw [World.size_alloc];omega) fun v' w6 hown hg=>h v' w6 ⟨⟨r++[(ws,_)],h4.snoc (x:=(ws,_)) h5 hg hown,by rw [List.map_append,h2];rfl⟩,(Aft.go h3 hb).grown hg (by have:=h3.size;rw [World.size_alloc];omega) (fun g hg=>(h4.1.lt g hg).1)⟩ (fun j cs ty fr hty hj=>(hg.block j (by have:=(Array.getElem?_eq_some_iff.1 hj).1;rw [World.size_alloc];omega) (fun e=>by
  obtain ⟨cs2,fr2,h6⟩:=own_typed h4.1 _ e.symm
  have h7:=(hb.block j (Array.getElem?_eq_some_iff.1 hj).1).trans hj
  rw [h7] at h6
  simp at h6
  exact hty h6.2.1)).trans ((hb.block j (Array.getElem?_eq_some_iff.1 hj).1).trans hj))
theorem LnS.aft {w1 w:World} {u:Value} {L:List Ln} (h:LnS w1 u L w):Aft w1 w:=h.2

theorem program_calls (p:Px) (v:Value) (w:World) (hp:PrAt w v p) (hf:FineQ p) (ht:NumL.Tab w) (hs:ShA.Tab w) (ho:TabW w) :
  Calls Tryz.prog 22 #[v] w (fun e w'=>∃ u,e=.returned u∧(∃ r:List Rw,OwnL w.heap.size u r w'∧r.map Prod.fst=progW p)∧Below w.heap.size w w'):=by
 obtain ⟨vt,vf,rfl,htys,hfns⟩:=hp
 obtain ⟨w1,hw1⟩:∃ X,X=w.alloc (.cells #[vt,vf] 28):=⟨_,rfl⟩
 have k0:w1.heap[w.heap.size]?=some (.cells #[vt,vf] 28 (0,0)):=by rw [hw1];exact heap_alloc_new _ _
 have hb1:Below w.heap.size w w1:=by rw [hw1];exact LxP.alloc_below _ _
 obtain ⟨ta,tc,rfl⟩:=htys.slice
 obtain ⟨fa,fc,rfl,hfl⟩:=RowAt.slice hfns
 have HTY:=hid (htys.below hb1)
 have HFN:=hid (RowAt.below fnStays hfns hb1)
 have HCT:=hid (fun (x:Ty) pv wx (hx:Aft w1 wx) (hp:IntsAt wx pv x.parts) (hl:x.parts.length≤1000) h1 h2 h3=>typ_calls x pv wx hp hl h1 h2 h3 (ht.on (hb1.trans (Below.mono hx hb1.size))))
 have HFQ:=hid hf
 have HTW:=hid (fun wx (hx:Aft w1 wx)=>ht.on (hb1.trans (Below.mono hx hb1.size)))
 have HCI:=hid (fun (x:Ix) (reg:Int) va vf wx (hx:Aft w1 wx) h0 ha hff hl hlf hag i1 i2 i3 i4 i5 i6 i7=>ins_calls x reg va vf wx h0 ha hff hl hlf hag i1 i2 i3 i4 i5 i6 i7 (ht.on (hb1.trans (Below.mono hx hb1.size))) (hs.on (hb1.trans (Below.mono hx hb1.size))) (ho.on (hb1.trans (Below.mono hx hb1.size))))
 have HW1:=hid hw1
 have HB1:=hid hb1
 have hr:Aft w1 w1:=Aft.refl w1
 have l0:=later (cell_at k0 0 _ rfl)
 have l1:=later (cell_at k0 1 _ rfl)
 simp only [List.getElem_toArray,List.getElem_cons_zero,List.getElem_cons_succ] at l0 l1
 have HN0:=hid (LnS.nil w1)
 clear hw1 hb1 k0 ht hs ho htys hfns hf
 go_enter Tryz.func22,Tryz.ntmps22
 go_wp2_with fail
 rw [← HW1.out]
 go_wp2_with fail
 go_loopg [3,5,16] p.types.length (fun gk u _ i wr=>∃ (k:Nat),k+gk=p.types.length∧i=.int .i64 k∧Hid (LnS w1 u ((p.types.take k).map tyW) wr)∧Aft w1 wr)
 case atStart=>exact ⟨0,by omega,rfl,HN0,hr⟩
 case round =>
  obtain ⟨k,hk,rfl,HS,hw⟩:=hrel
  have HK:=hid hk
  clear hk HN0
  by_cases hlt:k < p.types.length
  ·obtain ⟨tb,off,rfl,hltb,pv,c0,c1,c2,c3,hpv⟩:=(HTY.out.below hw).at k hlt
   have HTK:Hid ((p.types.take (k+1)).map tyW=(p.types.take k).map tyW++[tyW p.types[k]]):=by
    show _=_
    rw [List.take_succ_eq_append_getElem hlt,List.map_append];rfl
   have hmem:=List.getElem_mem hlt
   have HX:=hid (And.intro (HFQ.out.parts _ hmem) (HFQ.out.elem _ hmem))
   have HLN:Hid (((p.types.take k).map tyW).length≤100000):=by
    have:=HFQ.out.types
    show ((p.types.take k).map tyW).length≤100000
    rw [List.length_map,List.length_take];omega
   obtain ⟨pa,pc,rfl,_⟩:=TyP.ints_slice hpv
   have HC:=hid (HCT.out p.types[k] _ (wr.alloc (.cells #[.int .u8 p.types[k].kind,.int .i64 p.types[k].elem,.int .i64 p.types[k].many,.slice pa p.types[k].parts.length pc] 77)) (hw.alloc _) (hpv.below (LxP.alloc_below _ _)) HX.out.1 HX.out.2.1 HX.out.2.2.1 HX.out.2.2.2)
   have HK2:Hid (gk=p.types.length - k∧k < p.types.length):=⟨by have:=HK.out;omega,hlt⟩
   clear hpv HK hmem
   generalize p.types[k]=x at *
   generalize (p.types.take k).map tyW=LL at *
   have hki:(k:Int) < p.types.length:=by have:=HK2.out.2;omega
   clear hlt
   have HN16:=hid HFQ.out.types
   generalize hn1:p.types.length=n1 at *
   have HN1:=hid hn1
   have hnn:n1≤9223372036854775807:=by have:=HN16.out;omega
   clear hn1
   have HSA:=hid (HS.out.on (LxP.alloc_below wr (.cells #[.int .u8 x.kind,.int .i64 x.elem,.int .i64 x.many,.slice pa x.parts.length pc] 77)))
   go_wp2_with fail
   refine HC.out.mono ?_
   rintro e w5 ⟨lv,rfl,hlo,hb5⟩
   obtain ⟨la,lc,rfl⟩:=own_form hlo
   have HS5:=hid (HSA.out.on hb5)
   have hlo2:=LxP.owns_base hlo HSA.out.aft.size
   have hln:=HLN.out
   clear HC HSA hlo hb5 c0 c1 c2 c3 HX HS
   go_wp2_with (at_builtin;refine wpList_append_line rfl (.tmp 20) (.tmp 23) rfl HS5.out rfl rfl hlo2 hln ?_)
   intro v6 w6 hS6 _
   have HS6:=hid hS6
   have h6:=hS6.aft
   clear hS6 HS5 hlo2 hln hw
   go_wp2
   go_roundg (gk - 1)
   case measure=>have:=HK2.out;omega
   case rel=>exact ⟨k+1,by have:=HK2.out;have:=HN1.out;omega,by go_num,by rw [HTK.out];exact HS6,h6⟩
  obtain rfl:k=p.types.length:=by have:=HK.out;omega
  rw [List.take_length] at HS
  have HS0:Hid (LnS w1 u3 (p.types.map tyW++funcsW p.types (p.funcs.take 0)) wr):=by
   rw [List.take_zero]
   show LnS w1 u3 (p.types.map tyW++[]) wr
   rw [List.append_nil]
   exact HS.out
  clear HS HK hlt
  obtain ⟨wo,hwo⟩:∃ wo:World,wo=wr:=⟨wr,rfl⟩
  subst hwo
  obtain ⟨gO,hgo⟩:∃ go:Nat,go=gk:=⟨gk,rfl⟩
  subst hgo
  go_wp2
  go_loopg [3,7,8,10,12,29] p.funcs.length (fun gk u _ _ _ _ i wr=>∃ (k:Nat),k+gk=p.funcs.length∧i=.int .i64 k∧Hid (LnS w1 u (p.types.map tyW++funcsW p.types (p.funcs.take k)) wr)∧Hid ((p.types.map tyW++funcsW p.types (p.funcs.take k)).length≤20+3000 * k)∧Aft w1 wr)
  case atStart=>exact ⟨0,by omega,rfl,HS0,by have:=HFQ.out.types;show (p.types.map tyW++[]).length≤_;simp;omega,hw⟩
  case round =>
   obtain ⟨k,hk,rfl,HS,HL,hw⟩:=hrel
   have HK:=hid hk
   clear hk HS0
   by_cases hlt:k < p.funcs.length
   rotate_left
   ·obtain rfl:k=p.funcs.length:=by have:=HK.out;omega
    rw [List.take_length] at HS
    have HSF:Hid (LnS w1 u3 (progW p) wr):=HS
    clear HS HL HK hlt HTY HFN HCT HFQ l0 l1
    generalize p.funcs.length=n2 at *
    generalize p.types.length=n1 at *
    obtain ⟨⟨r,h1,h2⟩,h3⟩:=HSF.out
    obtain ⟨pa,pc,rfl⟩:=own_form h1.1
    have HR:=hid (And.intro h1 h2)
    clear h1 h2 HSF
    go_wp2
    go_ret
    exact ⟨_,rfl,⟨r,HR.out.1.base HB1.out.size,HR.out.2⟩,HB1.out.trans (Below.mono h3 HB1.out.size)⟩
   obtain ⟨fb,foff,rfl,hfb,vb,c0',c1',hbl⟩:=HFN.out.at k hlt
   have c0:=later c0' wr hw
   have c1:=later c1' wr hw
   clear c0' c1'
   have hmem:=List.getElem_mem hlt
   have HX:=hid (And.intro (HFQ.out.sig _ hmem) (And.intro (HFQ.out.blocks _ hmem) (And.intro (HFQ.out.ins _ hmem) (HFQ.out.en _ hmem))))
   have HFK:Hid (p.types.map tyW++funcsW p.types (p.funcs.take (k+1))=(p.types.map tyW++funcsW p.types (p.funcs.take k))++(fnW p.funcs[k].sig :: blocksW p.funcs[k].blocks (RdV.regOf p.types p.funcs[k].sig))):=by
    show _=_
    rw [List.take_succ_eq_append_getElem hlt,funcsW_snoc,List.append_assoc]
   have HK2:Hid (gk=p.funcs.length - k∧k < p.funcs.length∧p.funcs.length≤8):=⟨by have:=HK.out;omega,hlt,HFQ.out.funcs⟩
   clear HK hmem
   generalize p.funcs[k]=x at *
   generalize hLL:p.types.map tyW++funcsW p.types (p.funcs.take k)=LL at *
   clear hLL
   obtain ⟨sg,bl⟩:=x
   simp only at *
   obtain ⟨s,rfl⟩:∃ s:Nat,sg=s:=⟨sg.toNat,by have:=HX.out.1;omega⟩
   have hst:s < p.types.length:=by have:=HX.out.1;omega
   obtain ⟨tb,toff,hta,htb,pv,-,-,-,m3,hpv⟩:=HTY.out.at s hst
   obtain ⟨pa,pc,rfl,hpl⟩:=TyP.ints_slice hpv
   subst hta
   have HRG:Hid (RdV.regOf p.types (s:Int)=(p.types[s].parts.length:Int)∧p.types[s].parts.length≤1000):=⟨by
    unfold RdV.regOf;rw [Int.toNat_natCast,List.getElem?_eq_getElem hst],HFQ.out.parts _ (List.getElem_mem hst)⟩
   have lm3:=later m3
   obtain ⟨ba,bc,rfl,hbl9⟩:=RowAt.slice hbl
   have HBL:=hid hbl
   clear hpv hpl m3 hbl
   generalize p.types[s].parts.length=pn at *
   have hki:(k:Int) < p.funcs.length:=by have:=HK2.out.2.1;omega
   have hsi:(s:Int) < p.types.length:=by omega
   have h64s:I64 (s:Int):=by have:=HFQ.out.types;unfold I64;omega
   have HC1:=hid (line_lit (w1:=wr.alloc (.cells #[.int .i64 s,.slice ba bl.length bc] 49)) (l:=[.word (mk [102,117,110,99]),.mark 116 s]) (n:=2) (ty:=144) rfl (by decide) rfl (allc trivial (all1 h64s)) (Nat.le_of_ble_eq_true rfl) (HTW.out _ (hw.alloc _)))
   rw [show wordsAll [.word (mk [102,117,110,99]),.mark 116 s]=fnW s from rfl,World.size_alloc] at HC1
   have HSA:=hid (HS.out.on (LxP.alloc_below wr (.cells #[.int .i64 s,.slice ba bl.length bc] 49)))
   have HLL:Hid (LL.length≤25000):=by have:=HL.out;have:=HK2.out;show LL.length≤25000;omega
   have HLN:Hid (LL.length≤100000):=by have:=HL.out;have:=HK2.out;show LL.length≤100000;omega
   have k7:=heap_alloc_new wr (.cells #[.int .i64 s,.slice ba bl.length bc] 49)
   have HK7:=hid k7
   clear k7 hlt hst h64s
   have HRL:=hid (show bl.length≤16∧insN bl≤128 from HX.out.2.1)
   generalize fnW (s:Int)=fw at *
   generalize hn2:p.funcs.length=n2 at *
   have HN2:=hid hn2
   clear hn2
   generalize hn1:p.types.length=n1 at *
   clear hn1
   generalize hn3:bl.length=n3 at *
   have HN3:=hid hn3
   clear hn3
   go_upto_region 10 with fail
   go_wp2_with fail
   refine HC1.out.mono ?_
   rintro e w5 ⟨lv,rfl,hlo,hb5⟩
   obtain ⟨la,lc,rfl⟩:=own_form hlo
   have HS5:=hid (HSA.out.on hb5)
   have hlo2:=LxP.owns_base hlo HSA.out.aft.size
   have hln:=HLN.out
   have HK75:=hid ((hb5.block _ (by rw [World.size_alloc];omega)).trans HK7.out)
   obtain ⟨n7,hn7⟩:∃ n7,n7=wr.heap.size:=⟨_,rfl⟩
   rw [← hn7] at HK75
   have HN7:=hid hn7
   clear HC1 HSA HK7 hlo hb5 c0 c1 HS hn7
   go_wp2_with (at_builtin;refine wpList_append_line rfl (.tmp 33) (.tmp 41) rfl HS5.out rfl rfl hlo2 hln ?_)
   intro v6 w6 hS6 hkp
   have HS6:=hid hS6
   have h6:=hS6.aft
   have k7:=hkp _ _ _ _ (by decide) HK75.out
   rw [← HN7.out]
   have HK76:=hid k7
   have f0:=cell_at k7 0 _ rfl
   have f1:=cell_at k7 1 _ rfl
   simp only [List.getElem_toArray,List.getElem_cons_zero,List.getElem_cons_succ] at f0 f1
   clear hS6 HS5 hlo2 hln hkp k7 HK75 HN7
   go_wp2_with fail
   have HS60:Hid (LnS w1 v6 (LL++fw :: blocksW (bl.take 0) (pn:Int)) w6):=HS6.out
   have HL60:Hid ((LL++fw :: blocksW (bl.take 0) (pn:Int)).length≤LL.length+1+130 * 0):=by
    show (LL++[fw]).length≤_
    rw [List.length_append];exact Nat.le_refl _
   have hpq:(pn:Int)=((pn+insN (bl.take 0):Nat):Int):=rfl
   have HPQ:=hid hpq
   clear HS6 hpq
   obtain ⟨w2,hw2⟩:∃ wo:World,wo=wr:=⟨wr,rfl⟩
   subst hw2
   obtain ⟨g2,hg2⟩:∃ go:Nat,go=gk:=⟨gk,rfl⟩
   subst hg2
   go_loopg [3,8,10,12,54] n3 (fun gk u rg _ _ i wr=>∃ (j:Nat),j+gk=n3∧i=.int .i64 j∧Hid (rg=.int .i64 ((pn+insN (bl.take j):Nat):Int))∧Hid (LnS w1 u (LL++fw :: blocksW (bl.take j) (pn:Int)) wr)∧Hid ((LL++fw :: blocksW (bl.take j) (pn:Int)).length≤LL.length+1+130 * j)∧Hid (wr.heap[n7]?=some (.cells #[.int .i64 s,.slice ba n3 bc] 49 (0,0)))∧Aft w1 wr)
   case atStart=>exact ⟨0,by omega,rfl,congrArg (Value.int .i64) HPQ.out,HS60,HL60,HK76,h6⟩
   case round =>
    obtain ⟨j,hj,rfl,HRG3,HS3,HL3,HK3,hw3⟩:=hrel
    have HJ:=hid hj
    clear hj HS60 HL60 HK76 h6 f0 f1 HPQ
    by_cases hlt:j < bl.length
    rotate_left
    ·have htk:bl.take j=bl:=List.take_of_length_le (by have:=HJ.out;omega)
     rw [htk] at HS3 HL3 HRG3
     obtain rfl:j=n3:=by have:=HJ.out;have:=HN3.out;omega
     clear htk
     have hfk:=HFK.out
     rw [HRG.out.1] at hfk
     have HFK2:=hid hfk
     have HS4:Hid (LnS w1 u3 (p.types.map tyW++funcsW p.types (p.funcs.take (k+1))) wr):=by rw [HFK2.out];exact HS3
     have HL4:Hid ((p.types.map tyW++funcsW p.types (p.funcs.take (k+1))).length≤20+3000 * (k+1)):=by
      rw [HFK2.out]
      have h1:=HL3.out;have h2:=HL.out;have h3:=HRL.out.1
      show (LL++fw :: blocksW bl ↑pn).length≤_
      omega
     clear hfk HFK HFK2 HS3 HL3 HL HRL HJ hlt HK3
     go_wp2
     go_roundg (g2 - 1)
     case measure=>have:=HK2.out;have:=HN2.out;omega
     case rel=>exact ⟨k+1,by have:=HK2.out;have:=HN2.out;omega,by go_num,HS4,HL4,hw3⟩
    obtain ⟨yb,yoff,hya,hyb,vi,d0',d1',d2',d3',d4',hin⟩:=HBL.out.at j hlt
    subst hya
    have d0:=later d0' wr hw3
    have d1:=later d1' wr hw3
    have d2:=later d2' wr hw3
    have d3:=later d3' wr hw3
    have d4:=later d4' wr hw3
    obtain ⟨ia,ic,rfl,hil⟩:=RowAt.slice hin
    have HIN:=hid hin
    have HY:=hid (And.intro (HX.out.2.2.1 _ (List.getElem_mem hlt)) (HX.out.2.2.2 _ (List.getElem_mem hlt)))
    have hti:=insN_take bl j hlt
    have htl:=insN_le bl (j+1)
    have HBK:Hid (LL++fw :: blocksW (bl.take (j+1)) (pn:Int)=(LL++fw :: blocksW (bl.take j) (pn:Int))++(blW :: (insWs bl[j].ins (((pn+insN (bl.take j):Nat)):Int)++[endW bl[j].en]))):=by
     show _=_
     rw [List.take_succ_eq_append_getElem hlt,blocksW_snoc,← List.cons_append,← List.append_assoc,Int.natCast_add]
    have HJ2:Hid (gk=n3 - j∧j < n3):=⟨by have:=HJ.out;omega,by have:=HN3.out;omega⟩
    have HIT:Hid (insN (bl.take (j+1))=insN (bl.take j)+bl[j].ins.length∧insN (bl.take (j+1))≤128):=⟨hti,by have:=HRL.out.2;omega⟩
    clear d0' d1' d2' d3' d4' hin hti htl HJ
    generalize bl[j]=y at *
    clear hlt
    obtain ⟨yi,ye⟩:=y
    simp only at *
    generalize hL3:LL++fw :: blocksW (bl.take j) (pn:Int)=L3 at *
    clear hL3
    generalize hq3:pn+insN (bl.take j)=q3 at *
    have HQ3:Hid (q3≤1200∧q3+yi.length=pn+insN (bl.take (j+1))):=⟨by have:=HRG.out.2;have:=HIT.out;omega,by have:=HIT.out;omega⟩
    clear hq3
    have hrg3:=HRG3.out
    subst hrg3
    have HC2:=hid (line_lit (w1:=wr.alloc (.cells #[.slice ia yi.length ic,.int .u8 ye.kind,.int .i64 ye.a,.int .i64 ye.to,.int .i64 ye.els] 54)) (l:=[.word (mk [98,108,111,99,107])]) (n:=1) (ty:=144) rfl (by decide) rfl (all1 trivial) (Nat.le_of_ble_eq_true rfl) (HTW.out _ (hw3.alloc _)))
    rw [show wordsAll [.word (mk [98,108,111,99,107])]=blW from rfl,World.size_alloc] at HC2
    have HSA:=hid (HS3.out.on (LxP.alloc_below wr (.cells #[.slice ia yi.length ic,.int .u8 ye.kind,.int .i64 ye.a,.int .i64 ye.to,.int .i64 ye.els] 54)))
    have HLN:Hid (L3.length≤50000):=by have:=HL3.out;have:=HLL.out;have:=HJ2.out;have:=HRL.out.1;have:=HN3.out;show L3.length≤50000;omega
    have HKA:=hid ((LxP.alloc_below wr (.cells #[.slice ia yi.length ic,.int .u8 ye.kind,.int .i64 ye.a,.int .i64 ye.to,.int .i64 ye.els] 54)).block _ (Array.getElem?_eq_some_iff.1 HK3.out).1 |>.trans HK3.out)
    have HKB:=hid (heap_alloc_new wr (.cells #[.slice ia yi.length ic,.int .u8 ye.kind,.int .i64 ye.a,.int .i64 ye.to,.int .i64 ye.els] 54))
    generalize hbw:blW=bw at *
    clear hbw
    generalize hn4:yi.length=n4 at *
    have HN4:=hid hn4
    clear hn4
    have hji:(j:Int) < n3:=by have:=HJ2.out;omega
    go_upto_region 15 with fail
    go_wp2_with fail
    refine HC2.out.mono ?_
    rintro e w5 ⟨lv,rfl,hlo,hb5⟩
    obtain ⟨la2,lc2,rfl⟩:=own_form hlo
    have HS5:=hid (HSA.out.on hb5)
    have hlo2:=LxP.owns_base hlo HSA.out.aft.size
    have hln:L3.length≤100000:=by have:=HLN.out;omega
    have HKA5:=hid ((hb5.block _ (Array.getElem?_eq_some_iff.1 HKA.out).1).trans HKA.out)
    have HKB5:=hid ((hb5.block _ (Array.getElem?_eq_some_iff.1 HKB.out).1).trans HKB.out)
    obtain ⟨nB,hnB⟩:∃ nB,nB=wr.heap.size:=⟨_,rfl⟩
    rw [← hnB] at HKB5
    have HNB:=hid hnB
    clear HC2 HSA HKA HKB hlo hb5 d0 d1 d2 d3 d4 HS3 HK3 hnB
    go_wp2_with (at_builtin;refine wpList_append_line rfl (.tmp 58) (.tmp 62) rfl HS5.out rfl rfl hlo2 hln ?_)
    intro v7 w7 hS7 hkp
    have h7:=hS7.aft
    have kB:=hkp _ _ _ _ (by decide) HKB5.out
    rw [← HNB.out]
    have HKA7:=hid (hkp _ _ _ _ (by decide) HKA5.out)
    have HKB7:=hid kB
    have b0:=cell_at kB 0 _ rfl
    simp only [List.getElem_toArray,List.getElem_cons_zero] at b0
    have HS70:Hid (LnS w1 v7 (L3++bw :: insWs (yi.take 0) (q3:Int)) w7):=hS7
    have HL70:Hid ((L3++bw :: insWs (yi.take 0) (q3:Int)).length=L3.length+1+0):=by
     show (L3++[bw]).length=_
     rw [List.length_append];rfl
    clear hS7 HS5 hlo2 hln hkp kB HKA5 HKB5 HNB
    go_wp2_with fail
    obtain ⟨w3,hw3e⟩:∃ wo:World,wo=wr:=⟨wr,rfl⟩
    subst hw3e
    obtain ⟨g3,hg3⟩:∃ go:Nat,go=gk:=⟨gk,rfl⟩
    subst hg3
    go_loopg [3,8,12,67] n4 (fun gk u rg _ i wr=>∃ (m:Nat),m+gk=n4∧i=.int .i64 m∧Hid (rg=.int .i64 ((q3+m:Nat):Int))∧Hid (LnS w1 u (L3++bw :: insWs (yi.take m) (q3:Int)) wr)∧Hid ((L3++bw :: insWs (yi.take m) (q3:Int)).length=L3.length+1+m)∧Hid (wr.heap[n7]?=some (.cells #[.int .i64 s,.slice (some ⟨yb,yoff,none⟩) n3 bc] 49 (0,0)))∧Hid (wr.heap[nB]?=some (.cells #[.slice ia n4 ic,.int .u8 ye.kind,.int .i64 ye.a,.int .i64 ye.to,.int .i64 ye.els] 54 (0,0)))∧Aft w1 wr)
    case atStart=>exact ⟨0,by omega,rfl,rfl,HS70,HL70,HKA7,HKB7,h7⟩
    case round =>
     obtain ⟨m,hm,rfl,HRG4,HS8,HL8,HKA8,HKB8,hw4⟩:=hrel
     have HM:=hid hm
     clear hm HS70 HL70 HKA7 HKB7 h7 b0
     have hrg4:=HRG4.out
     subst hrg4
     obtain ⟨q,hq⟩:∃ q,q=q3+m:=⟨_,rfl⟩
     rw [← hq]
     have HQ:=hid hq
     clear hq HRG4
     by_cases hlt:m < yi.length
     rotate_left
     ·have htk:yi.take m=yi:=List.take_of_length_le (by omega)
      rw [htk] at HS8 HL8
      have hmn:m=n4:=by have:=HM.out;have:=HN4.out;omega
      have HE:=hid (end_calls ye wr HY.out.2.1 HY.out.2.2.1 HY.out.2.2.2 (HTW.out wr hw4))
      have hln:(L3++bw :: insWs yi (q3:Int)).length≤100000:=by have:=HL8.out;have:=HLN.out;have:=HIT.out;have:=HN4.out;omega
      have kB:=HKB8.out
      have b1:=cell_at kB 1 _ rfl
      have b2:=cell_at kB 2 _ rfl
      have b3:=cell_at kB 3 _ rfl
      have b4:=cell_at kB 4 _ rfl
      simp only [List.getElem_toArray,List.getElem_cons_zero,List.getElem_cons_succ] at b1 b2 b3 b4
      have hmi:¬ ((m:Int) < n4):=by omega
      have HMN:=hid hmn
      clear htk kB hlt hmn
      go_wp2_with fail
      refine HE.out.mono ?_
      rintro e w5 ⟨lv,rfl,hlo,hb5⟩
      obtain ⟨la3,lc3,rfl⟩:=own_form hlo
      have HS5:=hid (HS8.out.on hb5)
      have hlo2:=LxP.owns_base hlo HS8.out.aft.size
      have HKA5:=hid ((hb5.block _ (Array.getElem?_eq_some_iff.1 HKA8.out).1).trans HKA8.out)
      clear HE hlo hb5 b1 b2 b3 b4 HS8 HKA8 HKB8
      go_wp2_with (at_builtin;refine wpList_append_line rfl (.tmp 80) (.tmp 84) rfl HS5.out rfl rfl hlo2 hln ?_)
      intro v9 w9 hS9 hkp
      have h9:=hS9.aft
      have HKA9:=hid (hkp _ _ _ _ (by decide) HKA5.out)
      have HS9:Hid (LnS w1 v9 (LL++fw :: blocksW (bl.take (j+1)) (pn:Int)) w9):=by
       show LnS w1 v9 _ w9
       rw [HBK.out];simpa using hS9
      have HL9:Hid ((LL++fw :: blocksW (bl.take (j+1)) (pn:Int)).length≤LL.length+1+130 * (j+1)):=by
       have h1:=HL8.out;have h2:=HL3.out;have h3:=HIT.out;have h4:=HN4.out
       have h5:=HMN.out
       show (LL++fw :: blocksW (bl.take (j+1)) (pn:Int)).length≤LL.length+1+130 * (j+1)
       rw [List.length_append,List.length_cons] at h1
       rw [HBK.out,List.length_append,List.length_cons,List.length_append,List.length_singleton]
       omega
      have HRG9:Hid (Value.int .i64 (q:Int)=.int .i64 ((pn+insN (bl.take (j+1)):Nat):Int)):=by
       have h1:=HQ.out;have h2:=HQ3.out.2;have h3:=HMN.out
       show _=_
       refine congrArg _ ?_
       omega
      clear hS9 hkp HS5 hlo2 hln HKA5 HIT HL8 HQ
      go_wp2
      go_roundg (g3 - 1)
      case measure=>have:=HJ2.out;omega
      case rel=>exact ⟨j+1,by have:=HJ2.out;omega,by go_num,HRG9,HS9,HL9,HKA9,h9⟩
     obtain ⟨xb,xoff,hxa,hxb,va,vf,e0',e1',e2',e3',e4',e5',e6',hva,hvf⟩:=HIN.out.at m hlt
     subst hxa
     have e0:=later e0' wr hw4
     have e1:=later e1' wr hw4
     have e2:=later e2' wr hw4
     have e3:=later e3' wr hw4
     have e4:=later e4' wr hw4
     have e5:=later e5' wr hw4
     have e6:=later e6' wr hw4
     obtain ⟨a1,a2,rfl,_⟩:=TyP.ints_slice hva
     obtain ⟨f1,f2,rfl,_⟩:=TyP.ints_slice hvf
     have HXO:=hid (HY.out.1 _ (List.getElem_mem hlt))
     have HTK:Hid (insWs (yi.take (m+1)) (q3:Int)=insWs (yi.take m) (q3:Int)++[insW yi[m] ((q:Nat):Int)]):=by
      show _=_
      rw [List.take_succ_eq_append_getElem hlt,insWs_snoc,List.length_take,Nat.min_eq_left (by omega),HQ.out,Int.natCast_add]
     have HM2:Hid (gk=n4 - m∧m < n4):=⟨by have:=HM.out;omega,by have:=HN4.out;omega⟩
     have hq64:I64 (q:Int):=by have:=HQ.out;have:=HQ3.out;have:=HM2.out;have:=HN4.out;have:=HIT.out;unfold I64;omega
     have hqn:q≤5000:=by have:=HQ.out;have:=HQ3.out;have:=HM2.out;have:=HN4.out;have:=HIT.out;omega
     have HC4:=hid (HCI.out yi[m] (q:Int) _ _ (wr.alloc (.cells #[.int .u8 yi[m].op,.int .i64 yi[m].typ,.int .i64 yi[m].a,.int .i64 yi[m].b,.int .i64 yi[m].n,.slice a1 yi[m].args.length a2,.slice f1 yi[m].frm.length f2] 57)) (hw4.alloc _) HXO.out.1.op (hva.below (Below.alloc hw4 hw4.size _)) (hvf.below (Below.alloc hw4 hw4.size _)) HXO.out.2 HXO.out.1.frm1 HXO.out.1.args0 (fun n hn=>nn64 (HXO.out.1.args n hn)) (fun n hn=>nn64 (HXO.out.1.frm n hn)) (nn64 HXO.out.1.typ) (nn64 HXO.out.1.a) (nn64 HXO.out.1.b) HXO.out.1.n hq64)
     have HSA:=hid (HS8.out.on (LxP.alloc_below wr (.cells #[.int .u8 yi[m].op,.int .i64 yi[m].typ,.int .i64 yi[m].a,.int .i64 yi[m].b,.int .i64 yi[m].n,.slice a1 yi[m].args.length a2,.slice f1 yi[m].frm.length f2] 57)))
     have HKAA:=hid (((LxP.alloc_below wr (.cells #[.int .u8 yi[m].op,.int .i64 yi[m].typ,.int .i64 yi[m].a,.int .i64 yi[m].b,.int .i64 yi[m].n,.slice a1 yi[m].args.length a2,.slice f1 yi[m].frm.length f2] 57)).block _ (Array.getElem?_eq_some_iff.1 HKA8.out).1).trans HKA8.out)
     have HKBA:=hid (((LxP.alloc_below wr (.cells #[.int .u8 yi[m].op,.int .i64 yi[m].typ,.int .i64 yi[m].a,.int .i64 yi[m].b,.int .i64 yi[m].n,.slice a1 yi[m].args.length a2,.slice f1 yi[m].frm.length f2] 57)).block _ (Array.getElem?_eq_some_iff.1 HKB8.out).1).trans HKB8.out)
     have hln:(L3++bw :: insWs (yi.take m) (q3:Int)).length≤100000:=by have:=HL8.out;have:=HLN.out;have:=HIT.out;have:=HM2.out;have:=HN4.out;omega
     clear e0' e1' e2' e3' e4' e5' e6' hva hvf HXO HM hq64
     generalize yi[m]=x at *
     clear hlt
     generalize hL4:insWs (yi.take m) (q3:Int)=IW at *
     clear hL4
     have hmi:(m:Int) < n4:=by have:=HM2.out;omega
     generalize hxl:x.args.length=xn at *
     clear hxl
     generalize hxf:x.frm.length=fn at *
     clear hxf
     go_upto_region 19 with fail
     go_wp2_with fail
     refine HC4.out.mono ?_
     rintro e w5 ⟨lv,rfl,hlo,hb5⟩
     obtain ⟨la3,lc3,rfl⟩:=own_form hlo
     have HS5:=hid (HSA.out.on hb5)
     have hlo2:=LxP.owns_base hlo HSA.out.aft.size
     have HKA5:=hid ((hb5.block _ (Array.getElem?_eq_some_iff.1 HKAA.out).1).trans HKAA.out)
     have HKB5:=hid ((hb5.block _ (Array.getElem?_eq_some_iff.1 HKBA.out).1).trans HKBA.out)
     clear HC4 HSA HKAA HKBA hlo hb5 HS8 HKA8 HKB8 e0 e1 e2 e3 e4 e5 e6
     go_wp2_with (at_builtin;refine wpList_append_line rfl (.tmp 71) (.tmp 75) rfl HS5.out rfl rfl hlo2 hln ?_)
     intro v9 w9 hS9 hkp
     have h9:=hS9.aft
     have HKA9:=hid (hkp _ _ _ _ (by decide) HKA5.out)
     have HKB9:=hid (hkp _ _ _ _ (by decide) HKB5.out)
     have HS9:Hid (LnS w1 v9 (L3++bw :: insWs (yi.take (m+1)) (q3:Int)) w9):=by
      show LnS w1 v9 _ w9
      rw [HTK.out];simpa using hS9
     have HL9:Hid ((L3++bw :: insWs (yi.take (m+1)) (q3:Int)).length=L3.length+1+(m+1)):=by
      have h1:=HL8.out
      show (L3++bw :: insWs (yi.take (m+1)) (q3:Int)).length=L3.length+1+(m+1)
      rw [List.length_append,List.length_cons] at h1
      rw [HTK.out,List.length_append,List.length_cons,List.length_append,List.length_singleton]
      omega
     clear hS9 hkp HS5 hlo2 hln HKA5 HKB5 HL8 hw4
     go_wp2
     go_roundg (gk - 1)
     case measure=>have:=HM2.out;omega
     case rel=>exact ⟨m+1,by have:=HM2.out;omega,by go_num,by (show _=_;refine congrArg _ ?_;have:=HQ.out;omega),HS9,HL9,HKA9,HKB9,h9⟩
end Go.Proofs.YtbebficgcemkoaaGreatDoor.WkP
namespace Go.Proofs.YtbebficgcemkoaaGreatDoor.WkB
open Go.RowKit Go.Lib TyM ShM ShP LxM LxP LxK LxJ LxN RdM RdN RdV NumP WrM WrI WrP WkJ WkF

theorem size_mk (l:List UInt8):(mk l).size=l.length:=by simp [mk,ByteArray.size]
theorem itoa_small:∀ k:Fin 1000,(itoa (k.val:Int)).length≤3:=by decide +kernel
theorem mkw_small {c:UInt8} {n:Int} (h:Nn n):(mkw c n).size+1≤5:=by
 obtain ⟨h1,h2⟩:=h
 have:=itoa_small ⟨n.toNat,by omega⟩
 simp only at this
 rw [Int.toNat_of_nonneg h1] at this
 unfold mkw
 rw [size_mk,List.length_cons]
 omega
theorem mkw_size {c:UInt8} {n:Int} (h:I64 n):(mkw c n).size+1≤22:=by
 have:=(itoa_length n h).2
 unfold mkw
 rw [size_mk,List.length_cons]
 omega
theorem nmw_size {n:Int} (h:I64 n):(nmw n).size+1≤22:=by
 have:=(itoa_length n h).2
 unfold nmw
 rw [size_mk]
 omega
theorem opw_size {op:Int} (h:1≤op∧op≤22):(opw op).size+1≤22:=by
 have:=(by decide:∀ k:Fin 23,(wordsL.getD k.val []).length≤6) ⟨op.toNat,by omega⟩
 simp only at this
 unfold opw
 rw [size_mk]
 omega
theorem szL_le {c:Nat} : ∀ {l:Ln},(∀ y∈l,y.size+1≤c)→szL (unW l)≤l.length * c
 | [],_=>by simp [szL]
 | y :: l,h=>by
  have h1:=h y (by simp)
  have h2:=szL_le (l:=l) (fun z hz=>h z (by simp [hz]))
  have h3:szL (unW (y :: l))=(y.size+1)+szL (unW l):=by
   show szL (un y :: unW l)=_
   simp [szL]
  rw [h3,List.length_cons,Nat.add_mul]
  omega
structure LB (l:Ln) (n c:Nat):Prop where
 len:l.length≤n
 sz:szL (unW l)≤c
 each:∀ y∈l,y.size≤1000000
theorem LB.append {a b:Ln} {n m c d:Nat} (h:LB a n c) (k:LB b m d):LB (a++b) (n+m) (c+d) :=
 ⟨by rw [List.length_append];have:=h.len;have:=k.len;omega,by
  have e:unW (a++b)=unW a++unW b:=by simp [unW]
  rw [e,szL_append];have:=h.sz;have:=k.sz;omega,fun y hy=>by
  rcases List.mem_append.1 hy with hy | hy
  ·exact h.each y hy
  ·exact k.each y hy⟩
theorem LB.all {l:Ln} {n c:Nat} (hl:l.length≤n) (h:∀ y∈l,y.size+1≤c) (hc:c≤1000):LB l n (n * c) :=
 ⟨hl,Nat.le_trans (szL_le h) (Nat.mul_le_mul_right c hl),fun y hy=>by have:=h y hy;omega⟩
theorem LB.up {l:Ln} {n c m d:Nat} (h:LB l n c) (h1:n≤m) (h2:c≤d):LB l m d:=⟨Nat.le_trans h.len h1,Nat.le_trans h.sz h2,h.each⟩
theorem mem_two {α:Type} {p:α→Prop} {l m:List α} (h:∀ x∈l,p x) (k:∀ x∈m,p x):∀ x∈l++m,p x:=fun x hx=>by
 rcases List.mem_append.1 hx with hx | hx
 ·exact h x hx
 ·exact k x hx
theorem mem_cons {α:Type} {p:α→Prop} {a:α} {l:List α} (h:p a) (k:∀ x∈l,p x):∀ x∈a :: l,p x:=fun x hx=>by
 rcases List.mem_cons.1 hx with rfl | hx
 ·exact h
 ·exact k x hx
theorem mem_nil {α:Type} {p:α→Prop} : ∀ x∈([]:List α),p x:=fun x hx=>by cases hx
theorem pair_small:∀ l:List (Int × Int),(∀ p∈l,Nn p.1∧Nn p.2)→∀ y∈pairW l,y.size+1≤5
 | [],_=>mem_nil
 | p :: l,h=>by
  unfold pairW
  exact mem_cons (mkw_small (h p (by simp)).1) (mem_cons (mkw_small (h p (by simp)).2) (pair_small l fun q hq=>h q (by simp [hq])))
theorem marks_small {c:UInt8} {l:List Int} (h:∀ n∈l,Nn n):∀ y∈l.map (mkw c),y.size+1≤5:=fun y hy=>by
 obtain ⟨n,hn,rfl⟩:=List.mem_map.1 hy
 exact mkw_small (h n hn)
theorem word_size {l:List UInt8} (h:l.length≤21):(mk l).size+1≤22:=by rw [size_mk];omega
theorem insW_B {x:Ix} (h:IOk x) (hl:x.args.length≤40) {reg:Int} (hr:I64 reg):LB (insW x reg) 100 554:=by
 unfold insW hasW
 have h1:LB (if answersB x.op=true then [mkw 114 reg,mkw 116 x.typ,mk [61]] else []) 3 (3 * 22):=by
  split
  ·exact LB.all (by simp) (mem_cons (mkw_size hr) (mem_cons (mkw_size (nn64 h.typ)) (mem_cons (word_size (by simp)) mem_nil))) (by decide)
  ·exact LB.all (by simp) mem_nil (by decide)
 have h2:LB (abW x.op x.a x.b) 2 (2 * 22):=by
  unfold abW
  refine LB.all ?_ (mem_two ?_ ?_) (by decide)
  ·(repeat' split)<;>simp
  ·split
   ·exact mem_cons (mkw_size (nn64 h.a)) mem_nil
   ·exact mem_nil
  ·split
   ·exact mem_cons (mkw_size (nn64 h.b)) mem_nil
   ·exact mem_nil
 have h3:LB (numW x.op x.n) 1 (1 * 22):=by
  unfold numW
  refine LB.all ?_ ?_ (by decide)
  ·(repeat' split)<;>simp
  ·split
   ·exact mem_cons (nmw_size h.n) mem_nil
   ·split
    ·exact mem_cons (mkw_size h.n) mem_nil
    ·exact mem_nil
 have h4:LB (argW x) 80 (80 * 5):=by
  unfold argW
  split
  ·exact LB.all (by rw [pairW_len,List.length_zip];omega) (pair_small _ fun p hp=>⟨h.frm _ (List.of_mem_zip hp).1,h.args _ (List.of_mem_zip hp).2⟩) (by decide)
  ·exact LB.all (by rw [List.length_map];omega) (marks_small h.args) (by decide)
 have h5:LB [opw x.op] 1 (1 * 22):=LB.all (by simp) (mem_cons (opw_size h.op) mem_nil) (by decide)
 exact (h1.append (h5.append (h2.append (h3.append h4)))).up (by decide) (by decide)
theorem endW_B {x:Ex} (h1:I64 x.a) (h2:I64 x.to) (h3:I64 x.els):LB (endW x) 100 88:=by
 unfold endW
 have hw:∀ l:List UInt8,l.length≤21→(mk l).size+1≤22:=fun l h=>word_size h
 split
 ·exact (LB.all (n:=4) (c:=22) (by simp) (mem_cons (hw _ (by simp)) (mem_cons (mkw_size h2) mem_nil)) (by decide)).up (by decide) (by decide)
 split
 ·exact (LB.all (n:=4) (c:=22) (by simp) (mem_cons (hw _ (by simp)) (mem_cons (mkw_size h1) (mem_cons (mkw_size h2) (mem_cons (mkw_size h3) mem_nil)))) (by decide)).up (by decide) (by decide)
 ·exact (LB.all (n:=4) (c:=22) (by simp) (mem_cons (hw _ (by simp)) (mem_cons (mkw_size h1) mem_nil)) (by decide)).up (by decide) (by decide)
theorem tyW_B {t:Ty} (h:TOk t) (hp:t.parts.length≤1000):LB (tyW t) 5000 5100:=by
 have hw:∀ l:List UInt8,l.length≤21→(mk l).size+1≤22:=fun l h=>word_size h
 have h0:=hw [116,121,112,101] (by simp)
 obtain ⟨h1,h2,h3⟩:=ty_64 h
 have hn:∀ n∈t.parts,Nn n:=by
  rcases h with ⟨_,_,_,e⟩ | ⟨_,_,_,e⟩ | ⟨_,_,_,e⟩ | ⟨_,_,_,e⟩ | ⟨_,_,_,e⟩
  ·rw [e];exact mem_nil
  ·rw [e];exact mem_nil
  ·exact e
  ·exact e
  ·rw [e];exact mem_nil
 have hm:LB (t.parts.map (mkw 116)) 1000 (1000 * 5):=LB.all (by rw [List.length_map];exact hp) (marks_small hn) (by decide)
 unfold tyW kindW
 split
 ·exact (LB.all (n:=4) (c:=22) (by simp) (mem_cons h0 (mem_cons (hw _ (by simp)) (mem_cons (mkw_size h1) mem_nil))) (by decide)).up (by decide) (by decide)
 split
 ·exact ((LB.all (l:=[mk [116,121,112,101],mk [102,110],mkw 116 t.elem]) (n:=3) (c:=22) (by simp) (mem_cons h0 (mem_cons (hw _ (by simp)) (mem_cons (mkw_size h1) mem_nil))) (by decide)).append hm).up (by decide) (by decide)
 split
 ·exact ((LB.all (l:=[mk [116,121,112,101],mk [115,116,114,117,99,116]]) (n:=3) (c:=22) (by simp) (mem_cons h0 (mem_cons (hw _ (by simp)) mem_nil)) (by decide)).append hm).up (by decide) (by decide)
 split
 ·exact (LB.all (n:=4) (c:=22) (by simp) (mem_cons h0 (mem_cons (hw _ (by simp)) (mem_cons (mkw_size h1) (mem_cons (nmw_size h2) mem_nil)))) (by decide)).up (by decide) (by decide)
 ·exact (LB.all (n:=4) (c:=22) (by simp) (mem_cons h0 (mem_cons (hw _ (by simp)) mem_nil)) (by decide)).up (by decide) (by decide)
structure TB (L:List Ln) (n c:Nat):Prop where
 len:L.length≤n
 sz:szT (unL L)≤c
 all:∀ l∈L,l.length≤10000∧∀ y∈l,y.size≤1000000
theorem TB.nil:TB [] 0 0:=⟨Nat.le_refl _,Nat.le_refl _,mem_nil⟩
theorem TB.one {l:Ln} {n c:Nat} (h:LB l n c) (hn:n≤10000):TB [l] 1 c:=⟨Nat.le_refl _,by show szT [unW l]≤c;rw [szT_one];exact h.sz,mem_cons ⟨Nat.le_trans h.len hn,h.each⟩ mem_nil⟩
theorem TB.append {a b:List Ln} {n m c d:Nat} (h:TB a n c) (k:TB b m d):TB (a++b) (n+m) (c+d) :=
 ⟨by rw [List.length_append];have:=h.len;have:=k.len;omega,by
  have e:unL (a++b)=unL a++unL b:=by simp [unL]
  rw [e,szT_append];have:=h.sz;have:=k.sz;omega,mem_two h.all k.all⟩
theorem TB.up {a:List Ln} {n c m d:Nat} (h:TB a n c) (h1:n≤m) (h2:c≤d):TB a m d:=⟨Nat.le_trans h.len h1,Nat.le_trans h.sz h2,h.all⟩
theorem types_B:∀ l:List Ty,(∀ t∈l,TOk t∧t.parts.length≤1000)→TB (l.map tyW) l.length (l.length * 5100)
 | [],_=>TB.nil.up (Nat.zero_le _) (Nat.zero_le _)
 | t :: l,h=>((TB.one (tyW_B (h t (by simp)).1 (h t (by simp)).2) (by decide)).append (types_B l fun x hx=>h x (by simp [hx]))).up (by rw [List.length_cons];omega) (by rw [List.length_cons,Nat.add_mul];omega)
theorem insWs_B:∀ (l:List Ix) (r:Int),(∀ x∈l,IOk x∧x.args.length≤40)→0≤r→r+l.length≤100000→TB (insWs l r) l.length (l.length * 554)
 | [],_,_,_,_=>TB.nil.up (Nat.zero_le _) (Nat.zero_le _)
 | x :: l,r,h,h0,h1=>by
  rw [List.length_cons] at h1
  exact ((TB.one (insW_B (h x (by simp)).1 (h x (by simp)).2 (reg:=r) (by unfold I64;omega)) (by decide)).append (insWs_B l (r+1) (fun y hy=>h y (by simp [hy])) (by omega) (by omega))).up (by rw [List.length_cons];omega) (by rw [List.length_cons,Nat.add_mul];omega)
theorem blocksW_B:∀ (bs:List Bx) (r:Int),(∀ b∈bs,(∀ x∈b.ins,IOk x∧x.args.length≤40)∧I64 b.en.a∧I64 b.en.to∧I64 b.en.els)→0≤r→r+insN bs≤100000→TB (blocksW bs r) (2 * bs.length+insN bs) (2 * bs.length * 88+insN bs * 554)
 | [],_,_,_,_=>TB.nil.up (Nat.zero_le _) (Nat.zero_le _)
 | b :: bs,r,h,h0,h1=>by
  have hi:insN (b :: bs)=b.ins.length+insN bs:=by simp [insN]
  rw [hi] at h1 ⊢
  have hb:=h b (by simp)
  have k1:TB [blW] 1 88:=TB.one ((LB.all (l:=blW) (n:=1) (c:=22) (by decide) (by decide) (by decide)).up (m:=100) (by decide) (d:=88) (by decide)) (by decide)
  have k2:=insWs_B b.ins r hb.1 h0 (by omega)
  have k3:=TB.one (endW_B hb.2.1 hb.2.2.1 hb.2.2.2) (by decide)
  have k4:=blocksW_B bs (r+b.ins.length) (fun c hc=>h c (by simp [hc])) (by omega) (by omega)
  have k:=(k1.append (k2.append (k3.append k4)))
  exact k.up (by rw [List.length_cons];omega) (by rw [List.length_cons];omega)
theorem funcsW_B (ts:List Ty) (ht:∀ t∈ts,t.parts.length≤1000):∀ fs:List Fx,(∀ f∈fs,I64 f.sig∧f.blocks.length≤16∧insN f.blocks≤128∧(∀ b∈f.blocks,(∀ x∈b.ins,IOk x∧x.args.length≤40)∧I64 b.en.a∧I64 b.en.to∧I64 b.en.els))→TB (funcsW ts fs) (fs.length * 161) (fs.length * 73816)
 | [],_=>TB.nil.up (Nat.zero_le _) (Nat.zero_le _)
 | f :: fs,h=>by
  obtain ⟨h1,h2,h3,h4⟩:=h f (by simp)
  have hr:=reg_nn ts f.sig
  have hr2:regOf ts f.sig≤1000:=by
   unfold regOf
   split
   ·rename_i t e
    have:=ht t (List.mem_of_getElem? e)
    omega
   ·omega
  have k1:TB [fnW f.sig] 1 88:=TB.one ((LB.all (l:=fnW f.sig) (n:=2) (c:=22) (by simp [fnW]) (mem_cons (word_size (by simp)) (mem_cons (mkw_size h1) mem_nil)) (by decide)).up (m:=100) (by decide) (d:=88) (by decide)) (by decide)
  have k2:=blocksW_B f.blocks (regOf ts f.sig) h4 hr (by omega)
  have k3:=funcsW_B ts ht fs (fun g hg=>h g (by simp [hg]))
  exact (k1.append (k2.append k3)).up (by rw [List.length_cons];omega) (by rw [List.length_cons];omega)
theorem prog_fits {p:Px} (hw:POkW p) (h:FineQ p):Fits (progW p):=by
 have k1:=types_B p.types (fun t ht=>⟨hw.1 t ht,h.parts t ht⟩)
 have k2:=funcsW_B p.types h.parts p.funcs (fun f hf=>⟨nn64 (hw.2 f hf).1,(h.blocks f hf).1,(h.blocks f hf).2,fun b hb=>⟨h.ins f hf b hb,h.en f hf b hb⟩⟩)
 have k:=k1.append k2
 have h1:=h.types
 have h2:=h.funcs
 refine ⟨?_,fun l hl=>(k.all l hl).1,fun l hl=>(k.all l hl).2,?_⟩
 ·have:=k.len;unfold progW;omega
 ·have:=k.sz;unfold progW;omega
end Go.Proofs.YtbebficgcemkoaaGreatDoor.WkB
namespace Go.Proofs.YtbebficgcemkoaaGreatDoor.WkW
open Go.RowKit Go.Lib TyM TyP ShM ShP ShI LxM LxP LxK LxJ LxN RdM RdN RdV NumP WrM WrI WrP WrC WrT WkJ WkF WkB Aft

def TextR (o:Int × List UInt8) (w:World) (e:Ending) (w' : World):Prop:=e=.returned (.tuple #[.string (mk o.2),.int .i64 o.1])∧Below w.heap.size w w'

theorem write_calls (p:Px) (v:Value) (w:World) (hp:PrAt w v p) (hs:ShP.Small p) (hok:POk p) (hn:N64 p) (hk:LxK.Tab w) (htab:ShA.Tab w) (ht:NumL.Tab w) (ho:TabW w) :
  Calls Tryz.prog 9 #[v] w (TextR (writeO p) w):=by
 have hp0:=hp
 obtain ⟨vt,vf,rfl,htys,hfns⟩:=hp
 obtain ⟨w1,hw1⟩:∃ X,X=w.alloc (.cells #[vt,vf] 28):=⟨_,rfl⟩
 have k0:w1.heap[w.heap.size]?=some (.cells #[vt,vf] 28 (0,0)):=by rw [hw1];exact heap_alloc_new _ _
 have hb1:Below w.heap.size w w1:=by rw [hw1];exact LxP.alloc_below _ _
 have HCK:=hid (ShI.check_calls p _ w1 (hp0.below hb1) (htab.on hb1) hs hok)
 have HPR:=hid (fun (hc:chkP p=0) wx (hx:Aft w1 wx)=>WkP.program_calls p _ wx (hp0.below (hb1.trans (Below.mono hx hb1.size))) (fine_of hc hok hn) (ht.on (hb1.trans (Below.mono hx hb1.size))) (htab.on (hb1.trans (Below.mono hx hb1.size))) (ho.on (hb1.trans (Below.mono hx hb1.size))))
 have HFT:=hid (fun (hc:chkP p=0)=>prog_fits (prog_ok hc hok hn) (fine_of hc hok hn))
 have HJ:=hid (fun u wx (hx:Aft w1 wx) (hl:LinesAt wx u (progW p)) (hf:Fits (progW p))=>LxT.joinC_calls u (progW p) wx hl hf (hk.on (hb1.trans (Below.mono hx hb1.size))))
 have HE:Hid (writeO p=if chkP p=0 then (jnE (unL (progW p)),jnT (unL (progW p))) else (chkP p,[])):=rfl
 obtain ⟨ta,tc,rfl⟩:=htys.slice
 obtain ⟨fa,fc,rfl,hfl⟩:=RowAt.slice hfns
 have HW1:=hid hw1
 have HB1:=hid hb1
 have hr:Aft w1 w1:=Aft.refl w1
 have l0:=later (WkT.cell_at k0 0 _ rfl)
 have l1:=later (WkT.cell_at k0 1 _ rfl)
 simp only [List.getElem_toArray,List.getElem_cons_zero,List.getElem_cons_succ] at l0 l1
 clear hw1 hb1 k0 ht htab ho hk htys hfns hp0 hs hok hn
 generalize chkP p=ck at *
 generalize writeO p=wo at *
 go_enter Tryz.func9,Tryz.ntmps9
 go_wp2_with fail
 rw [← HW1.out]
 go_wp2_with fail
 refine HCK.out.mono ?_
 rintro e w2 ⟨rfl,hb2⟩
 have h2:=hr.go hb2
 clear HCK hb2
 by_cases hc:ck=0
 ·have HE1:=hid (HE.out.trans (if_pos hc))
  have HPC:=hid (HPR.out hc w2 h2)
  have HF:=hid (HFT.out hc)
  clear HE HPR HFT
  go_wp2_with fail
  refine HPC.out.mono ?_
  rintro e w3 ⟨u,rfl,⟨r,hol,hrl⟩,hb3⟩
  have h3:=h2.go hb3
  have hla:LinesAt w3 u (progW p):=by
   rw [← hrl]
   exact hol.lines (by have:=HF.out.lines;rw [← hrl,List.length_map] at this;omega) (fun x hx=>by have:=HF.out.words x.1 (by rw [← hrl];exact List.mem_map_of_mem hx);omega)
  have HJC:=hid (HJ.out u w3 h3 hla HF.out)
  clear HPC HJ HF hol hrl hla hb3
  go_wp2_with fail
  refine HJC.out.mono ?_
  rintro e w4 ⟨rfl,hb4⟩
  have HB:=hid (HB1.out.trans (Below.mono (h3.go hb4) HB1.out.size))
  clear HJC hb4
  generalize jnT (unL (progW p))=jt at *
  generalize jnE (unL (progW p))=je at *
  go_wp2
  go_ret2
  rw [HE1.out]
  exact ⟨rfl,HB.out⟩
 ·have HE1:=hid (HE.out.trans (if_neg hc))
  have HB:=hid (HB1.out.trans (Below.mono h2 HB1.out.size))
  clear HE HPR HFT HJ
  go_wp2
  go_ret2
  rw [HE1.out]
  exact ⟨rfl,HB.out⟩

end Go.Proofs.YtbebficgcemkoaaGreatDoor.WkW
namespace Go.Proofs.YtbebficgcemkoaaGreatDoor.WkW
open Go.RowKit Go.Lib TyM TyP ShM ShP ShI LxM LxP LxK LxJ LxN RdM RdN RdV RcO RcZ NumP WrM WrI WrP WrC WrT WkJ WkF WkB Aft

theorem read_small {s:List UInt8} (h:(readO s).1=0):ShP.Small (readO s).2∧POk (readO s).2∧N64 (readO s).2:=by
 obtain ⟨h1,h2,h3⟩:=read_some h
 obtain ⟨h4,h5⟩:=RcY.prog_ok (RcY.fine_lines h1) h2
 exact ⟨h4,h5,(read_n64 h).1⟩
theorem canon_calls (s:ByteArray) (w:World) (hk:LxK.Tab w) (htab:ShA.Tab w) (hto:TabO w) (ht:NumL.Tab w) (ho:TabW w) :
  Calls Tryz.prog 10 #[.string s] w (TextR (canonO (un s)) w):=by
 have HRD:=hid (read_calls s w hk htab hto)
 have HWR:=hid (fun (h:(readO (un s)).1=0) v wx (hb:Below w.heap.size w wx) (hp:PrAt wx v (readO (un s)).2)=>write_calls (readO (un s)).2 v wx hp (read_small h).1 (read_small h).2.1 (read_small h).2.2 (hk.on hb) (htab.on hb) (ht.on hb) (ho.on hb))
 have HE:Hid (canonO (un s)=if (readO (un s)).1=0 then writeO (readO (un s)).2 else ((readO (un s)).1,[])):=rfl
 unfold ReadO at HRD
 clear hk htab hto ht ho
 generalize canonO (un s)=co at *
 generalize readO (un s)=ro at *
 obtain ⟨re,rp⟩:=ro
 simp only at *
 generalize writeO rp=wo at *
 go_enter Tryz.func10,Tryz.ntmps10
 go_wp2_with fail
 refine HRD.out.mono ?_
 rintro e w2 ⟨v,rfl,hp,hb⟩
 obtain ⟨ta,tn,tc,fa,fn,fc,rfl⟩:=pr_agg hp
 have hb2:=hb.trans ((LxP.alloc_below w2 (.cells #[.slice ta tn tc,.slice fa fn fc] 28)).mono hb.size)
 have HB2:=hid hb2
 have hp2:=hp.below (LxP.alloc_below w2 (.cells #[.slice ta tn tc,.slice fa fn fc] 28))
 have HP2:=hid hp2
 clear hb hp hb2 hp2 HRD
 by_cases hc:re=0
 ·have HE1:=hid (HE.out.trans (if_pos hc))
  have HC:=hid (HWR.out hc _ _ HB2.out HP2.out)
  clear HE HWR HP2
  go_wp2_with fail
  refine HC.out.mono ?_
  rintro e w3 ⟨rfl,hb3⟩
  have HB:=hid (HB2.out.trans (hb3.mono HB2.out.size))
  clear HC hb3 HB2
  obtain ⟨a,b⟩:=wo
  simp only at *
  go_wp2
  go_ret2
  rw [HE1.out]
  exact ⟨rfl,HB.out⟩
 ·have HE1:=hid (HE.out.trans (if_neg hc))
  clear HE HWR HP2
  go_wp2
  go_ret2
  rw [HE1.out]
  exact ⟨rfl,HB2.out⟩
end Go.Proofs.YtbebficgcemkoaaGreatDoor.WkW
namespace Go.Proofs.YtbebficgcemkoaaGreatDoor.WvK
open Go.RowKit Go.Lib IntO SetP TyM TyP ShM ShP LxM LxP LxJ RwO RgZ NumP WrM WrI WrP WkM WkF WkT WvM Aft

theorem end_calls (x:Ex) (w:World) (h1:I64 x.a) (h2:I64 x.to) (h3:I64 x.els) :
  Calls Tryz.prog 54 #[exV x] w (LineR (endW x) w):=by
 have HM1:=hid (fun c wx=>mark_calls c x.a h1 wx)
 have HM2:=hid (fun c wx=>mark_calls c x.to h2 wx)
 have HM3:=hid (fun c wx=>mark_calls c x.els h3 wx)
 have HE:Hid (endW x=if x.kind=1 then [mk [106,117,109,112],mkw 98 x.to] else if x.kind=2 then [mk [98,114,97,110,99,104],mkw 114 x.a,mkw 98 x.to,mkw 98 x.els] else [mk [114,101,116,117,114,110],mkw 114 x.a]):=rfl
 clear h1 h2 h3
 obtain ⟨w1,hw1⟩:∃ X,X=w.alloc (.cells #[.int .u8 x.kind,.int .i64 x.a,.int .i64 x.to,.int .i64 x.els] 52):=⟨_,rfl⟩
 have k0:w1.heap[w.heap.size]?=some (.cells #[.int .u8 x.kind,.int .i64 x.a,.int .i64 x.to,.int .i64 x.els] 52 (0,0)):=by rw [hw1];exact heap_alloc_new _ _
 have hb1:Below w.heap.size w w1:=by rw [hw1];exact LxP.alloc_below _ _
 have HW1:=hid hw1
 have HB1:=hid hb1
 have hr:Aft w1 w1:=Aft.refl w1
 have l0:=later (WkT.cell_at k0 0 _ rfl)
 have l1:=later (WkT.cell_at k0 1 _ rfl)
 have l2:=later (WkT.cell_at k0 2 _ rfl)
 have l3:=later (WkT.cell_at k0 3 _ rfl)
 simp only [List.getElem_toArray,List.getElem_cons_zero,List.getElem_cons_succ] at l0 l1 l2 l3
 clear hw1 hb1 k0
 go_enter Tryz.func54,Tryz.ntmps54
 by_cases q1:x.kind=1
 ·have HE1:=hid (HE.out.trans (if_pos q1))
  clear HE
  rw [q1] at l0 HW1
  have HC:=hid (HM2.out 98 w1)
  rw [show (((98:UInt8).toNat:Nat):Int)=98 from rfl] at HC
  go_wp2_with fail
  rw [← HW1.out]
  go_wp2_with fail
  refine HC.out.mono ?_
  rintro e w2 ⟨rfl,hb2⟩
  have HR:Hid (LineR (endW x) w (.returned (.slice (some ⟨w2.heap.size,0,none⟩) 2 2)) (w2.alloc (.cells #[.string (mk [106,117,109,112]),.string (mkw 98 x.to)] 9))):=by
   show LineR _ _ _ _
   rw [HE1.out]
   have h2:=HB1.out.trans (hb2.mono HB1.out.size)
   exact ⟨_,rfl,LxP.owns_base (LxP.ownsRow_lit w2 (strs [mk [106,117,109,112],mkw 98 x.to]) 9 2 rfl (by decide)) h2.size,h2.alloc h2.size _⟩
  clear HC HM1 HM2 HM3 hb2 HE1
  generalize mkw 98 x.to=s2 at *
  go_wp2
  go_ret
  exact HR.out
 have HE0:=hid (HE.out.trans (if_neg q1))
 clear HE
 by_cases q2:x.kind=2
 ·have HE1:=hid (HE0.out.trans (if_pos q2))
  clear HE0
  rw [q2] at l0 HW1
  have HA:=hid (HM1.out 114)
  have HB:=hid (HM2.out 98)
  have HC:=hid (HM3.out 98)
  rw [show (((114:UInt8).toNat:Nat):Int)=114 from rfl] at HA
  rw [show (((98:UInt8).toNat:Nat):Int)=98 from rfl] at HB HC
  have h0:=hr.drew
  clear HM1 HM2 HM3
  generalize hs1:mkw 114 x.a=s1 at *
  generalize hs2:mkw 98 x.to=s2 at *
  generalize hs3:mkw 98 x.els=s3 at *
  clear hs1 hs2 hs3
  go_upto_region 4 with fail
  rw [← HW1.out]
  go_region_held3 (fun w'=>Aft w1 w') (first | with_reducible exact Aft.alloc (((h0.go hba).go hbb).go hbc) _ | with_reducible exact Aft.alloc (((h0.go hba).go hbc).go hbb) _ | with_reducible exact Aft.alloc (((h0.go hbb).go hba).go hbc) _ | with_reducible exact Aft.alloc (((h0.go hbb).go hbc).go hba) _ | with_reducible exact Aft.alloc (((h0.go hbc).go hba).go hbb) _ | with_reducible exact Aft.alloc (((h0.go hbc).go hbb).go hba) _ | with_reducible exact (((h0.go hba).go hbb).go hbc) | with_reducible exact (((h0.go hba).go hbc).go hbb) | with_reducible exact (((h0.go hbb).go hba).go hbc) | with_reducible exact (((h0.go hbb).go hbc).go hba) | with_reducible exact (((h0.go hbc).go hba).go hbb) | with_reducible exact (((h0.go hbc).go hbb).go hba) | with_reducible exact ((h0.go hba).go hbb) | with_reducible exact ((h0.go hba).go hbc) | with_reducible exact ((h0.go hbb).go hba) | with_reducible exact ((h0.go hbb).go hbc) | with_reducible exact ((h0.go hbc).go hba) | with_reducible exact ((h0.go hbc).go hbb) | with_reducible exact (h0.go hba) | with_reducible exact (h0.go hbb) | with_reducible exact (h0.go hbc) | with_reducible exact h0) (first | (go_at_call 51;(with_reducible refine (HA.out _).mono ?_);rintro e wa ⟨rfl,hba⟩) | (go_at_call 51;(with_reducible refine (HB.out _).mono ?_);rintro e wb ⟨rfl,hbb⟩) | (go_at_call 51;(with_reducible refine (HC.out _).mono ?_);rintro e wc ⟨rfl,hbc⟩))
  have h3:=((h0.go hba).go hbb).go hbc
  have HR:Hid (LineR (endW x) w (.returned (.slice (some ⟨wc.heap.size,0,none⟩) 4 4)) (wc.alloc (.cells #[.string (mk [98,114,97,110,99,104]),.string s1,.string s2,.string s3] 9))):=by
   show LineR _ _ _ _
   rw [HE1.out]
   have h2:=HB1.out.trans (Below.mono h3 HB1.out.size)
   exact ⟨_,rfl,LxP.owns_base (LxP.ownsRow_lit wc (strs [mk [98,114,97,110,99,104],s1,s2,s3]) 9 4 rfl (by decide)) h2.size,h2.alloc h2.size _⟩
  clear HA HB HC h3 hba hbb hbc HE1
  go_wp2
  go_ret
  exact HR.out
 ·have HE1:=hid (HE0.out.trans (if_neg q2))
  clear HE0
  have HC:=hid (HM1.out 114 w1)
  rw [show (((114:UInt8).toNat:Nat):Int)=114 from rfl] at HC
  go_wp2_with fail
  rw [← HW1.out]
  go_wp2_with fail
  refine HC.out.mono ?_
  rintro e w2 ⟨rfl,hb2⟩
  have HR:Hid (LineR (endW x) w (.returned (.slice (some ⟨w2.heap.size,0,none⟩) 2 2)) (w2.alloc (.cells #[.string (mk [114,101,116,117,114,110]),.string (mkw 114 x.a)] 9))):=by
   show LineR _ _ _ _
   rw [HE1.out]
   have h2:=HB1.out.trans (hb2.mono HB1.out.size)
   exact ⟨_,rfl,LxP.owns_base (LxP.ownsRow_lit w2 (strs [mk [114,101,116,117,114,110],mkw 114 x.a]) 9 2 rfl (by decide)) h2.size,h2.alloc h2.size _⟩
  clear HC HM1 HM2 HM3 hb2 HE1
  generalize mkw 114 x.a=s2 at *
  go_wp2
  go_ret
  exact HR.out

theorem line_new {w w2:World} {ws:List ByteArray} {n:Nat} (h:Below w.heap.size w w2) (hn:ws.length=n) (h100:n≤100):LineR ws w (.returned (.slice (some ⟨w2.heap.size,0,none⟩) n n)) (w2.alloc (.cells (strs ws).toArray 9)) :=
 ⟨_,rfl,by subst hn;exact LxP.owns_base (LxP.ownsRow_lit w2 (strs ws) 9 ws.length (by simp [strs]) (by unfold maxLen;omega)) h.size,h.alloc h.size _⟩
theorem kind_calls (x:Ty) (pv:Value) (w:World) (hp:IntsAt w pv x.parts) (hl:x.parts.length≤1000) (h1:I64 x.elem) (h2:I64 x.many) (h3:∀ n∈x.parts,I64 n) :
  Calls Tryz.prog 50 #[tyV x pv] w (LineR (tyW x) w):=by
 obtain ⟨pa,pc,rfl,_⟩:=TyP.ints_slice hp
 obtain ⟨w1,hw1⟩:∃ X,X=w.alloc (.cells #[.int .u8 x.kind,.int .i64 x.elem,.int .i64 x.many,.slice pa x.parts.length pc] 77):=⟨_,rfl⟩
 have k0:w1.heap[w.heap.size]?=some (.cells #[.int .u8 x.kind,.int .i64 x.elem,.int .i64 x.many,.slice pa x.parts.length pc] 77 (0,0)):=by rw [hw1];exact heap_alloc_new _ _
 have hb1:Below w.heap.size w w1:=by rw [hw1];exact LxP.alloc_below _ _
 have HM1:=hid (fun wx=>mark_calls 116 x.elem h1 wx)
 rw [show (((116:UInt8).toNat:Nat):Int)=116 from rfl] at HM1
 have HMN:=hid (fun wx=>NumW.write_calls x.many h2 wx)
 have HMS:=hid (fun (ws:List ByteArray) (hws:ws.length≤100) v wx (hx:Aft w1 wx) (ho:wx.ownsRow w1.heap.size 9 1 v ws.length (strs ws))=>marks_calls v ws 116 (.slice pa x.parts.length pc) x.parts w1.heap.size wx ho hx.size (hp.below (hb1.trans (Below.mono hx hb1.size))) (fun wy hy _=>hp.below (hb1.trans (Below.mono (Below.trans hx hy) hb1.size))) h3 (by omega) (by omega))
 rw [show (((116:UInt8).toNat:Nat):Int)=116 from rfl] at HMS
 have HE:Hid (tyW x=mk [116,121,112,101] :: (if x.kind=2 then [mk [112,116,114],mkw 116 x.elem] else if x.kind=3 then mk [102,110] :: mkw 116 x.elem :: x.parts.map (mkw 116) else if x.kind=4 then mk [115,116,114,117,99,116] :: x.parts.map (mkw 116) else if x.kind=5 then [mk [97,114,114,97,121],mkw 116 x.elem,nmw x.many] else [mk [105,110,116]])):=rfl
 have HW1:=hid hw1
 have HB1:=hid hb1
 have hr:Aft w1 w1:=Aft.refl w1
 have l0:=later (WkT.cell_at k0 0 _ rfl)
 have l1:=later (WkT.cell_at k0 1 _ rfl)
 have l2:=later (WkT.cell_at k0 2 _ rfl)
 have l3:=later (WkT.cell_at k0 3 _ rfl)
 simp only [List.getElem_toArray,List.getElem_cons_zero,List.getElem_cons_succ] at l0 l1 l2 l3
 clear hw1 hb1 k0 hp hl h1 h2 h3
 go_enter Tryz.func50,Tryz.ntmps50
 by_cases q2:x.kind=2
 ·have HE1:=hid (HE.out.trans (congrArg _ (if_pos q2)))
  rw [q2] at l0 HW1
  clear HE HMN HMS
  go_wp2_with fail
  rw [← HW1.out]
  go_wp2_with fail
  refine (HM1.out w1).mono ?_
  rintro e w2 ⟨rfl,hb2⟩
  have HR:Hid (LineR (tyW x) w (.returned (.slice (some ⟨w2.heap.size,0,none⟩) 3 3)) (w2.alloc (.cells #[.string (mk [116,121,112,101]),.string (mk [112,116,114]),.string (mkw 116 x.elem)] 9))):=by
   show LineR _ _ _ _
   rw [HE1.out]
   exact line_new (ws:=[mk [116,121,112,101],mk [112,116,114],mkw 116 x.elem]) (n:=3) (HB1.out.trans (hb2.mono HB1.out.size)) rfl (by decide)
  clear HM1 hb2
  generalize mkw 116 x.elem=s1 at *
  go_wp2
  go_ret
  exact HR.out
 have HE2:=hid (HE.out.trans (congrArg _ (if_neg q2)))
 clear HE
 by_cases q3:x.kind=3
 ·have HE1:=hid (HE2.out.trans (congrArg _ (if_pos q3)))
  rw [q3] at l0 HW1
  clear HE2 HMN
  have h0:=hr.drew
  go_upto_region 5 with fail
  rw [← HW1.out]
  refine wp_region_noPanic ?_
  refine wp_region_Z (S:=(fun w'=>Aft w1 w')) (Z:=[]) (by kernel_rfl) ?_ (fun hHeld=>?_)
  ·exact h0
  refine zP 0 rfl ?_
  refine zT 1 rfl ?_
  refine zP 4 rfl ?_
  refine zT 5 rfl ?_
  refine zC 2 rfl (fun K hK=>?_)
  go_simp
  (go_at_call 51;(with_reducible refine (HM1.out _).mono ?_);rintro e w2 ⟨rfl,hb2⟩)
  have h2:=h0.go hb2
  refine hK.out _ _ ?_ (fun hHeld=>?_)
  ·exact h2
  clear hK K
  refine zC 3 rfl (fun K hK=>?_)
  go_simp
  have h3:=h2.alloc (.cells #[.string (mk [116,121,112,101]),.string (mk [102,110]),.string (mkw 116 x.elem)] 9)
  refine hK.out _ _ ?_ (fun hHeld=>?_)
  ·exact h3
  clear hK K
  have HC:=hid (HMS.out [mk [116,121,112,101],mk [102,110],mkw 116 x.elem] (by simp) (.slice (some ⟨w2.heap.size,0,none⟩) 3 3) _ h3 (LxP.owns_base (LxP.ownsRow_lit w2 (strs [mk [116,121,112,101],mk [102,110],mkw 116 x.elem]) 9 3 rfl (by decide)) h2.size))
  refine zC 6 rfl (fun K hK=>?_)
  go_simp
  (go_at_call 104;refine HC.out.mono ?_;rintro e w4 hm)
  obtain ⟨u,rfl,ho,hb4⟩:=hm
  have h4:=Below.trans h3 hb4
  have HR:Hid (LineR (tyW x) w (.returned u) w4):=by
   show LineR _ _ _ _
   rw [HE1.out]
   exact ⟨u,rfl,LxP.owns_base ho HB1.out.size,HB1.out.trans (h4.mono HB1.out.size)⟩
  refine hK.out _ _ ?_ (fun hHeld=>?_)
  ·exact h4
  clear hK K HM1 HMS HC hb2 ho hb4
  refine zP 7 rfl ?_
  refine wpAnyZ_done (by kernel_rfl) ?_ _
  refine NoPanic.normal ?_
  go_wp2
  go_ret
  exact HR.out
 have HE3:=hid (HE2.out.trans (congrArg _ (if_neg q3)))
 clear HE2
 by_cases q4:x.kind=4
 ·have HE1:=hid (HE3.out.trans (congrArg _ (if_pos q4)))
  rw [q4] at l0 HW1
  clear HE3 HMN HM1
  have hwa:=hr.alloc (.cells #[.string (mk [116,121,112,101]),.string (mk [115,116,114,117,99,116])] 9)
  have HC:=hid (HMS.out [mk [116,121,112,101],mk [115,116,114,117,99,116]] (by simp) (.slice (some ⟨w1.heap.size,0,none⟩) 2 2) _ hwa (LxP.ownsRow_lit w1 (strs [mk [116,121,112,101],mk [115,116,114,117,99,116]]) 9 2 rfl (by decide)))
  have hsz:w.heap.size+1=w1.heap.size:=by rw [HW1.out,World.size_alloc]
  have HSZ:=hid hsz
  clear hsz
  go_wp2_with fail
  rw [← HW1.out,HSZ.out]
  refine HC.out.mono ?_
  rintro e w4 hm
  obtain ⟨u,rfl,ho,hb4⟩:=hm
  have h4:=Below.trans hwa hb4
  have HR:Hid (LineR (tyW x) w (.returned u) w4):=by
   show LineR _ _ _ _
   rw [HE1.out]
   exact ⟨u,rfl,LxP.owns_base ho HB1.out.size,HB1.out.trans (h4.mono HB1.out.size)⟩
  clear HMS HC hwa ho hb4
  go_wp2
  go_ret
  exact HR.out
 have HE4:=hid (HE3.out.trans (congrArg _ (if_neg q4)))
 clear HE3 HMS
 by_cases q5:x.kind=5
 ·have HE1:=hid (HE4.out.trans (congrArg _ (if_pos q5)))
  rw [q5] at l0 HW1
  clear HE4
  have h0:=hr.drew
  have HNM:Hid (nmw x.many=⟨(itoa x.many).toArray⟩):=rfl
  rw [← HNM.out] at HMN
  generalize hs1:mkw 116 x.elem=s1 at *
  generalize hs2:nmw x.many=s2 at *
  clear hs1 hs2 HNM
  go_upto_region 9 with fail
  rw [← HW1.out]
  go_region_held3 (fun w'=>Aft w1 w') (first | with_reducible exact Aft.alloc ((h0.go hba).go hbb) _ | with_reducible exact ((h0.go hba).go hbb) | with_reducible exact Aft.alloc ((h0.go hbb).go hba) _ | with_reducible exact ((h0.go hbb).go hba) | with_reducible exact (h0.go hba) | with_reducible exact (h0.go hbb) | with_reducible exact h0) (first | (go_at_call 51;(with_reducible refine (HM1.out _).mono ?_);rintro e wa ⟨rfl,hba⟩) | (go_at_call 105;(with_reducible refine (HMN.out _).mono ?_);rintro e wb ⟨rfl,hbb⟩))
  have h3:=(h0.go hba).go hbb
  have HR:Hid (LineR (tyW x) w (.returned (.slice (some ⟨wb.heap.size,0,none⟩) 4 4)) (wb.alloc (.cells #[.string (mk [116,121,112,101]),.string (mk [97,114,114,97,121]),.string s1,.string s2] 9))):=by
   show LineR _ _ _ _
   rw [HE1.out]
   exact line_new (ws:=[mk [116,121,112,101],mk [97,114,114,97,121],s1,s2]) (n:=4) (HB1.out.trans (Below.mono h3 HB1.out.size)) rfl (by decide)
  clear HM1 HMN hba hbb h3 HE1
  go_wp2
  go_ret
  exact HR.out
 have HE1:=hid (HE4.out.trans (congrArg _ (if_neg q5)))
 clear HE4 HM1 HMN
 have HR:Hid (LineR (tyW x) w (.returned (.slice (some ⟨w1.heap.size,0,none⟩) 2 2)) (w1.alloc (.cells #[.string (mk [116,121,112,101]),.string (mk [105,110,116])] 9))):=by
  show LineR _ _ _ _
  rw [HE1.out]
  exact line_new (ws:=[mk [116,121,112,101],mk [105,110,116]]) (n:=2) HB1.out rfl (by decide)
 go_wp2_with fail
 rw [← HW1.out]
 have hsz:w.heap.size+1=w1.heap.size:=by rw [HW1.out,World.size_alloc]
 rw [← hsz] at HR
 go_wp2
 go_ret
 exact HR.out
end Go.Proofs.YtbebficgcemkoaaGreatDoor.WvK
namespace Go.Proofs.YtbebficgcemkoaaGreatDoor.WvI
open Go.RowKit Go.Lib IntO SetP TyM TyP ShM ShP ShB LxM LxP LxJ RwO RgZ RdM NumP WrM WrI WrP WkM WkF WkL WkJ WvM WvK Aft

def RowW (w1:World) (v:Value) (l:List ByteArray) (w:World):Prop:=w.ownsRow w1.heap.size 9 1 v l.length (strs l)∧Aft w1 w
theorem RowW.on {w1 w w' : World} {v:Value} {l:List ByteArray} (h:RowW w1 v l w) (hb:Below w.heap.size w w'):RowW w1 v l w':=⟨LxP.ownsRow_below h.1 hb,h.2.go hb⟩
theorem RowW.more {w1 w w' : World} {v v' : Value} {l m:List ByteArray} {n:Nat} (h:RowW w1 v l w) (ho:w'.ownsRow w1.heap.size 9 1 v' n (strs l++strs m)) (hn:n=l.length+m.length) (hg:w.grownBy w' v.ownBlock):RowW w1 v' (l++m) w':=by
 subst hn
 refine ⟨?_,h.2.grown hg h.2.size (fun g hg=>(h.1.lt g hg).1)⟩
 rw [List.length_append]
 simpa [strs] using ho
theorem wpList_append_words {ops:Array Oper} {rest:List Oper} {o:Oper} {a:Act} {w' : World} {Q:Exit→Act→World→Prop} (hgd:o.guard=none) (s x:Operand)
  (ho:o.op=.call { callee:=.builtin .append,args:=#[s,x],argTypes:=#[74,74] })
  {w1:World} {u:Value} {L ws:List ByteArray} {n:Nat} (hS:RowW w1 u L w') (hs:a.eval s=u) (hx:a.eval x=.slice (some ⟨w'.heap.size,0,none⟩) n n) (hw:ws.length=n) (h100:n≤100) (hn:L.length≤100000)
  (h:∀ v' w6,RowW w1 v' (L++ws) w6→wpList Tryz.prog ops Q rest (a.put o.dst v') w6):wpList Tryz.prog ops Q (o :: rest) a (w'.alloc (.cells (strs ws).toArray 9)):=by
 subst hw
 have hb:=LxP.alloc_below w' (.cells (strs ws).toArray 9)
 have h4:=hS.on hb
 have hl:ListAt (w'.alloc (.cells (strs ws).toArray 9)) (.slice (some ⟨w'.heap.size,0,none⟩) ws.length ws.length) (strs ws):=by
  have:=list_of_owns (LxP.ownsRow_lit w' (strs ws) 9 ws.length (by simp [strs]) (by unfold maxLen;omega)) (by simp [strs];omega)
  exact this
 exact wpList_append_list hgd s x elemS ho w1.heap.size u hs L.length (strs L) h4.1 (by omega) _ _ hx hl (strs_one _) (by simp [strs];omega) (by have:=hS.2.size;rw [World.size_alloc];omega) fun v' w6 hown hg=>h v' w6 (h4.more hown (by simp [strs]) hg)
def ansW (x:Ix) (reg:Int):List ByteArray:=if answersB x.op=true then [mkw 114 reg,mkw 116 x.typ,mk [61]] else []
theorem numW_le (op n:Int):(numW op n).length≤1:=by unfold numW;(repeat' split)<;>simp
theorem pairW_append:∀ a b:List (Int × Int),pairW (a++b)=pairW a++pairW b
 | [],_=>rfl
 | p :: a,b=>by show _ :: _ :: pairW (a++b)=_;rw [pairW_append a b];rfl
theorem ansW_len (x:Ix) (reg:Int):(ansW x reg).length≤3:=by unfold ansW;split<;>simp
theorem insW_ref (x:Ix) (reg:Int):insW x reg=(ansW x reg++[opw x.op])++((abL x).map (mkw 114)++numW x.op x.n++argW x):=by
 unfold insW hasW ansW
 rw [← abL_words]
 simp
theorem q150x1 {P:Prop} (h:P:=by
 have hlw2:(LW++numW x.op x.n).length≤10000:=by have:=HLW2.out;have:=numW_le x.op x.n;rw [List.length_append];omega
 have HC:=hid (HMK.out v7 (LW++numW x.op x.n) w7 h7 HR7.out.1 hlw2)
 clear hlw2 HR7 HMK
 go_wp2_with fail
 refine HC.out.mono ?_
 rintro e w9 ⟨u,rfl,ho9,hb9⟩
 obtain ⟨pu,cu,h90⟩:=own_form ho9
 subst h90
 have HF:Hid (LineR (insW x reg) w (.returned (.slice pu (LW++numW x.op x.n++x.args.map (mkw 114)).length cu)) w9):=by
  show LineR _ _ _ _
  have h9:=Below.trans h7 hb9
  have e9:insW x reg=LW++numW x.op x.n++x.args.map (mkw 114):=by
   rw [insW_ref,HLE.out,HARG.out,HSO.out];simp
  rw [e9]
  exact ⟨_,rfl,LxP.owns_base ho9 HB1.out.size,HB1.out.trans (h9.mono HB1.out.size)⟩
 clear HC ho9 hb9 h7
 generalize (LW++numW x.op x.n++x.args.map (mkw 114)).length=nl at *
 go_wp2
 go_ret
 exact HF.out):P:=h
theorem ins_calls (x:Ix) (reg:Int) (va vf:Value) (w:World) (h0:1≤x.op∧x.op≤22) (ha:IntsAt w va x.args) (hf:IntsAt w vf x.frm) (hl:x.args.length≤40) (hlf:x.op=22→x.frm.length=x.args.length)
  (i1:∀ n∈x.args,I64 n) (i2:∀ n∈x.frm,I64 n) (i3:I64 x.typ) (i4:I64 x.a) (i5:I64 x.b) (i6:I64 x.n) (i7:I64 reg) :
  Calls Tryz.prog 52 #[ixV x va vf,.int .i64 reg] w (LineR (insW x reg) w):=by
 obtain ⟨aa,ac,rfl,_⟩:=TyP.ints_slice ha
 obtain ⟨fa,fc,rfl,_⟩:=TyP.ints_slice hf
 obtain ⟨w1,hw1⟩:∃ X,X=w.alloc (.cells #[.int .u8 x.op,.int .i64 x.typ,.int .i64 x.a,.int .i64 x.b,.int .i64 x.n,.slice aa x.args.length ac,.slice fa x.frm.length fc] 57):=⟨_,rfl⟩
 have k0:w1.heap[w.heap.size]?=some (.cells #[.int .u8 x.op,.int .i64 x.typ,.int .i64 x.a,.int .i64 x.b,.int .i64 x.n,.slice aa x.args.length ac,.slice fa x.frm.length fc] 57 (0,0)):=by rw [hw1];exact heap_alloc_new _ _
 have hb1:Below w.heap.size w w1:=by rw [hw1];exact LxP.alloc_below _ _
 obtain ⟨k,hk⟩:∃ k:Nat,x.op=(k:Int):=⟨x.op.toNat,by omega⟩
 have HK:=hid hk
 have HKR:Hid (1≤k∧k≤22):=by show 1≤k∧k≤22;omega
 have HCA:=hid (fun wx=>ShB.answersR_calls x.op (by omega) (by omega) wx)
 have HCW:=hid (fun wx=>RdO.word_calls k (by omega) wx)
 have hwd:RdO.wdOf k=opw x.op:=by rw [hk];rfl
 unfold RdO.WordR at HCW
 rw [hwd] at HCW
 have HCU:=hid (fun wx=>ShV.usesR_calls ⟨x.op,0,x.a,x.b,0,[],[]⟩ (.slice none 0 0) (.slice none 0 0) wx (by simp only;omega) (by simp only;omega) ⟨none,0,rfl,by simp,(fun h=>by simp at h),(fun _=>rfl),by simp⟩ (by simp) ⟨_,_,_,rfl⟩)
 have HMR:=hid (fun c n (hn:I64 n) wx=>mark_calls c n hn wx)
 have HVA:=hid ha
 have HVF:=hid hf
 have HL:=hid hl
 have HLF:=hid hlf
 have HI:=hid (And.intro i3 (And.intro i4 (And.intro i5 (And.intro i6 i7))))
 have HI1:=hid i1
 have HI2:=hid i2
 have HW1:=hid hw1
 have HB1:=hid hb1
 have hr:Aft w1 w1:=Aft.refl w1
 have l0:=later (WkT.cell_at k0 0 _ rfl)
 have l1:=later (WkT.cell_at k0 1 _ rfl)
 have l2:=later (WkT.cell_at k0 2 _ rfl)
 have l3:=later (WkT.cell_at k0 3 _ rfl)
 have l4:=later (WkT.cell_at k0 4 _ rfl)
 have l5:=later (WkT.cell_at k0 5 _ rfl)
 have l6:=later (WkT.cell_at k0 6 _ rfl)
 simp only [List.getElem_toArray,List.getElem_cons_zero,List.getElem_cons_succ] at l0 l1 l2 l3 l4 l5 l6
 have hix:ixV x (.slice aa x.args.length ac) (.slice fa x.frm.length fc)=.agg #[.int .u8 (k:Int),.int .i64 x.typ,.int .i64 x.a,.int .i64 x.b,.int .i64 x.n,.slice aa x.args.length ac,.slice fa x.frm.length fc]:=by
  show Value.agg #[.int .u8 x.op,_,_,_,_,_,_]=_
  rw [hk]
 rw [hk] at l0 HCA HW1 HCU
 rw [hix]
 clear hw1 hb1 k0 ha hf hl hlf i1 i2 i3 i4 i5 i6 i7 h0 hk hix hwd
 go_enter Tryz.func52,Tryz.ntmps52
 go_wp2_with fail
 rw [← HW1.out]
 refine (HCA.out w1).mono ?_
 rintro e w2 ⟨rfl,rfl⟩
 clear HCA
 have HAB:Hid (ansW x reg=if answersB (k:Int)=true then [mkw 114 reg,mkw 116 x.typ,mk [61]] else []):=by rw [← HK.out];exact rfl
 generalize answersB (k:Int)=ab at *
 go_upto_if 9 with fail
 go_cut [5] (fun v wc=>RowW w1 v (ansW x reg) wc)
 case first =>
  cases ab with
  | false =>
   have HA:Hid (ansW x reg=[]):=HAB.out
   clear HCU HCW HMR HAB
   go_wp2_with fail
   go_meet
   case rel=>rw [HA.out];exact ⟨World.ownsRow_nil _ _ _ _,hr⟩
  | true =>
   have HA:Hid (ansW x reg=[mkw 114 reg,mkw 116 x.typ,mk [61]]):=HAB.out
   have HA1:=hid (HMR.out 114 reg HI.out.2.2.2.2)
   have HA2:=hid (HMR.out 116 x.typ HI.out.1)
   rw [show (((114:UInt8).toNat:Nat):Int)=114 from rfl] at HA1
   rw [show (((116:UInt8).toNat:Nat):Int)=116 from rfl] at HA2
   clear HCU HCW HMR HAB
   generalize hs1:mkw 114 reg=s1 at *
   generalize hs2:mkw 116 x.typ=s2 at *
   clear hs1 hs2
   have hd:=hr.drew
   go_upto_region 3 with fail
   refine wp_region_noPanic ?_
   refine wp_region_Z (S:=(fun w'=>Aft w1 w')) (Z:=[]) (by kernel_rfl) ?_ (fun hHeld=>?_)
   ·exact hd
   refine zP 0 rfl ?_
   refine zP 1 rfl ?_
   refine zP 3 rfl ?_
   refine zT 4 rfl ?_
   refine zC 2 rfl (fun K hK=>?_)
   go_simp
   (go_at_call 51;(with_reducible refine (HA1.out _).mono ?_);rintro e wx ⟨rfl,hbx⟩)
   have hx:=hd.go hbx
   refine hK.out _ _ ?_ (fun hHeld=>?_)
   ·exact hx
   clear hK K
   refine zC 5 rfl (fun K hK=>?_)
   go_simp
   (go_at_call 51;(with_reducible refine (HA2.out _).mono ?_);rintro e wy ⟨rfl,hby⟩)
   have hy:=hx.go hby
   refine hK.out _ _ ?_ (fun hHeld=>?_)
   ·exact hy
   clear hK K
   refine zC 6 rfl (fun K hK=>?_)
   go_simp
   refine hK.out _ _ ?_ (fun hHeld=>?_)
   ·exact hy.alloc _
   clear hK K
   refine zC 7 rfl (fun K hK=>?_)
   rw [if_pos (by rfl)]
   have HZ:=hid (show RowW w1 (.slice none 0 0) [] (wy.alloc (.cells #[.string s1,.string s2,.string (mk [61])] 9)) from ⟨World.ownsRow_nil _ _ _ _,hy.alloc _⟩)
   refine wp_append_row strW (by decide) infoStr Tryz.underlying74 rfl (.tmp 10) (.tmp 16) rfl w1.heap.size (.slice none 0 0) rfl 0 [] (World.ownsRow_nil _ _ _ _) wy.heap.size 0 3 3 [s1,s2,mk [61]] rfl rfl (fun z hz v hv=>by obtain rfl:=List.mem_singleton.1 hv;rfl) (fun j u hj=>by rw [strRow] at hj;rw [Nat.zero_add];exact lit_cells wy (strs [s1,s2,mk [61]]) _ j u hj) (by simp [maxLen]) (by simp) (hy.alloc _).size ?_
   intro v6 w6 hown6 hgr6
   rw [strRow] at hown6
   have HR6:=hid (HZ.out.more (m:=[s1,s2,mk [61]]) hown6 rfl hgr6)
   obtain ⟨p6,c6,h60⟩:=own_form hown6
   subst h60
   have h6:Aft w1 w6:=HR6.out.2
   clear hown6 hgr6 HZ
   refine hK.out _ _ ?_ (fun hHeld=>?_)
   ·exact h6
   clear hK K
   refine zP 8 rfl ?_
   refine wpAnyZ_done (by kernel_rfl) ?_ _
   refine NoPanic.normal ?_
   go_wp2_with fail
   go_meet
   case rel=>rw [HA.out];exact HR6.out
 case rest =>
  obtain ⟨w3,hw3⟩:∃ wd:World,wd=wc:=⟨_,rfl⟩
  subst hw3
  have HR3:=hid hcut
  have h3:=hcut.2
  clear hcut HAB
  have hla:=ansW_len x reg
  have hlw:(ansW x reg).length≤100000:=by omega
  have HLA:=hid hla
  clear hla
  go_wp2_with fail
  refine (HCW.out w3).mono ?_
  rintro e w4 ⟨rfl,hb4⟩
  have HR4:=hid (HR3.out.on hb4)
  clear HCW HR3 hb4 h3
  generalize hso:opw x.op=so at *
  have HSO:=hid hso
  clear hso
  go_wp2_with (at_builtin;refine wpList_append_words (ws:=[so]) rfl (.tmp 18) (.tmp 22) rfl HR4.out rfl rfl rfl (by decide) hlw ?_)
  intro v5 w5 hR5
  have HR5:=hid hR5
  have h5:Aft w1 w5:=hR5.2
  clear hR5 HR4 hlw
  by_cases q:k=22
  ·have e22:((k:Int) == 22)=true:=by simp;omega
   have HARG:Hid (argW x=pairW (x.frm.zip x.args)):=by show argW x=_;unfold argW;rw [if_pos (by have:=HK.out;omega)]
   have hnum:numW x.op x.n=[]:=by unfold numW;rw [if_neg (by have:=HK.out;omega),if_neg (by have:=HK.out;omega)]
   have hab:abL x=[]:=by unfold abL;rw [show x.op=22 by have:=HK.out;omega];rfl
   have HWD:Hid (insW x reg=ansW x reg++[so]++pairW (x.frm.zip x.args)):=by
    show insW x reg=_
    rw [insW_ref,hnum,hab,HARG.out,HSO.out];simp
   have hlen:=HLF.out (by have:=HK.out;omega)
   have HVF1:=hid (HVF.out.below HB1.out)
   have HVA1:=hid (HVA.out.below HB1.out)
   have HZ:Hid (∀ j (h:j < x.frm.length) (h2:j < x.args.length),pairW ((x.frm.zip x.args).take (j+1))=pairW ((x.frm.zip x.args).take j)++[mkw 98 x.frm[j],mkw 114 x.args[j]]):=fun j h h2=>by
    rw [List.take_succ_eq_append_getElem (by rw [List.length_zip];omega),List.getElem_zip,pairW_append]
    rfl
   have HLEN:=hid hlen
   have HR50:Hid (RowW w1 v5 (ansW x reg++[so]++pairW ((x.frm.zip x.args).take 0)) w5):=by
    show RowW _ _ _ _
    rw [List.take_zero]
    show RowW _ _ (_++[]) _
    rw [List.append_nil];exact HR5.out
   clear hnum hab hlen HR5 HVA HVF HLF HCU HARG q HSO
   go_wp2_with fail
   go_loopg [5,6] x.frm.length (fun gk v i wr=>∃ (j:Nat),j+gk=x.frm.length∧i=.int .i64 j∧Hid (RowW w1 v (ansW x reg++[so]++pairW ((x.frm.zip x.args).take j)) wr)∧Aft w1 wr)
   case atStart=>exact ⟨0,by omega,rfl,HR50,h5⟩
   case round =>
    obtain ⟨j,hj,rfl,HR,hw⟩:=hrel
    have HJ:=hid hj
    clear hj HR50 h5
    by_cases hlt:j < x.frm.length
    rotate_left
    ·have htk:(x.frm.zip x.args).take j=x.frm.zip x.args:=List.take_of_length_le (by rw [List.length_zip];omega)
     rw [htk,← HWD.out] at HR
     have hjn:j=x.frm.length:=by have:=HJ.out;omega
     obtain ⟨pu,cu,h90⟩:=own_form HR.out.1
     subst h90
     have hji:¬ ((j:Int) < x.frm.length):=by omega
     have HF:Hid (LineR (insW x reg) w (.returned (.slice pu (insW x reg).length cu)) wr):=⟨_,rfl,LxP.owns_base HR.out.1 HB1.out.size,HB1.out.trans (Below.mono hw HB1.out.size)⟩
     clear HR htk HZ hlt hjn HJ HMR
     generalize (insW x reg).length=nl at *
     generalize x.frm.length=n1 at *
     go_wp2
     go_ret
     exact HF.out
    have hlt2:j < x.args.length:=by have:=HLEN.out;omega
    obtain ⟨b1,o1,hfa,hb1,d1⟩:=TyP.ints_at HVF1.out j hlt
    subst hfa
    obtain ⟨b2,o2,haa,hb2,d2⟩:=TyP.ints_at HVA1.out j hlt2
    subst haa
    have ld1:=later d1
    have ld2:=later d2
    have HZK:=hid (HZ.out j hlt hlt2)
    have HMA:=hid (HMR.out 98 x.frm[j] (HI2.out _ (List.getElem_mem hlt)))
    have HMB:=hid (HMR.out 114 x.args[j] (HI1.out _ (List.getElem_mem hlt2)))
    rw [show (((98:UInt8).toNat:Nat):Int)=98 from rfl] at HMA
    rw [show (((114:UInt8).toNat:Nat):Int)=114 from rfl] at HMB
    have hji:(j:Int) < x.frm.length:=by omega
    have hji2:(j:Int) < x.args.length:=by omega
    have HJ2:Hid (gk=x.frm.length - j∧j < x.frm.length):=⟨by have:=HJ.out;omega,hlt⟩
    have HLL:Hid ((ansW x reg++[so]++pairW ((x.frm.zip x.args).take j)).length≤1000):=by
     show (_:Nat)≤1000
     rw [List.length_append,List.length_append,pairW_len,List.length_take,List.length_zip]
     have:=HLA.out;have:=HL.out;simp;omega
    clear HZ HJ HMR d1 d2
    generalize hs1:mkw 98 x.frm[j]=s1 at *
    generalize hs2:mkw 114 x.args[j]=s2 at *
    clear hs1 hs2
    generalize x.frm[j]=nf at *
    generalize x.args[j]=na at *
    clear hlt hlt2
    have hn1b:x.frm.length≤9223372036854775807:=by have:=HLEN.out;have:=HL.out;omega
    generalize hn1:x.frm.length=n1 at *
    have HN1:=hid hn1
    clear hn1
    generalize x.args.length=n2 at *
    generalize hLW:ansW x reg++[so]++pairW ((x.frm.zip x.args).take j)=LW at *
    have HLWE:=hid hLW
    clear hLW
    have hd:=hw.drew
    have HRD:=hid (HR.out.on (Below.refl _ wr).drew)
    go_upto_region 9 with fail
    refine wp_region_noPanic ?_
    refine wp_region_Z (S:=(fun w'=>Aft w1 w')) (Z:=[]) (by kernel_rfl) ?_ (fun hHeld=>?_)
    ·exact hd
    refine zP 0 rfl ?_
    refine zP 1 rfl ?_
    refine zT 2 rfl ?_
    refine zP 3 rfl ?_
    refine zP 4 rfl ?_
    refine zT 5 rfl ?_
    refine zP 7 rfl ?_
    refine zT 8 rfl ?_
    refine zP 9 rfl ?_
    refine zP 10 rfl ?_
    refine zT 11 rfl ?_
    refine zC 6 rfl (fun K hK=>?_)
    go_simp
    (go_at_call 51;(with_reducible refine (HMA.out _).mono ?_);rintro e wx ⟨rfl,hbx⟩)
    have hx:=hd.go hbx
    have HRX:=hid (HRD.out.on hbx)
    refine hK.out _ _ ?_ (fun hHeld=>?_)
    ·exact hx
    clear hK K
    refine zC 12 rfl (fun K hK=>?_)
    go_simp
    (go_at_call 51;(with_reducible refine (HMB.out _).mono ?_);rintro e wy ⟨rfl,hby⟩)
    have hy:=hx.go hby
    have HRY:=hid (HRX.out.on hby)
    refine hK.out _ _ ?_ (fun hHeld=>?_)
    ·exact hy
    clear hK K
    refine zC 13 rfl (fun K hK=>?_)
    go_simp
    refine hK.out _ _ ?_ (fun hHeld=>?_)
    ·exact hy.alloc _
    clear hK K
    refine zC 14 rfl (fun K hK=>?_)
    rw [if_pos (by rfl)]
    have HRA:=hid (HRY.out.on (LxP.alloc_below wy (.cells #[.string s1,.string s2] 9)))
    refine wp_append_row strW (by decide) infoStr Tryz.underlying74 rfl (.tmp 34) (.tmp 47) rfl w1.heap.size _ rfl LW.length (strs LW) HRA.out.1 wy.heap.size 0 2 2 [s1,s2] rfl rfl (fun z hz v hv=>by obtain rfl:=List.mem_singleton.1 hv;rfl) (fun j u hj=>by rw [strRow] at hj;rw [Nat.zero_add];exact lit_cells wy (strs [s1,s2]) _ j u hj) (by have:=HLL.out;unfold maxLen;simp;omega) (by have:=HLL.out;simp;omega) HRA.out.2.size ?_
    intro v6 w6 hown6 hgr6
    rw [strRow] at hown6
    have HR6:=hid (HRA.out.more (m:=[s1,s2]) hown6 rfl hgr6)
    have h6:Aft w1 w6:=HR6.out.2
    clear hown6 hgr6 HRA HRY HRX HRD HR
    refine hK.out _ _ ?_ (fun hHeld=>?_)
    ·exact h6
    clear hK K
    refine zP 15 rfl ?_
    refine wpAnyZ_done (by kernel_rfl) ?_ _
    refine NoPanic.normal ?_
    clear hHeld ld1 ld2 hd hx hy hbx hby hw HMA HMB
    go_wp2
    go_roundg (gk - 1)
    case measure=>have:=HJ2.out;omega
    case rel=>exact ⟨j+1,by have:=HJ2.out;have:=HN1.out;omega,by go_num,by (show RowW _ _ _ _;rw [HZK.out,← List.append_assoc,HLWE.out];exact HR6.out),h6⟩
  have HARG:Hid (argW x=x.args.map (mkw 114)):=by show argW x=_;unfold argW;rw [if_neg (by have:=HK.out;omega)]
  have e22:((k:Int) == 22)=false:=by simp;omega
  have HAB2:Hid (usesOf ⟨(k:Int),0,x.a,x.b,0,[],[]⟩=abL x):=by
   show usesOf _=_
   rw [← HK.out]
   unfold usesOf abL
   simp
  have HAI:=hid (abL_i64 HI.out.2.1 HI.out.2.2.1)
  have HMK:=hid (fun v ws wx (hx:Aft w1 wx) (ho:wx.ownsRow w1.heap.size 9 1 v ws.length (strs ws)) (hws:ws.length≤10000)=>marks_calls v ws 114 (.slice aa x.args.length ac) x.args w1.heap.size wx ho hx.size (HVA.out.below (HB1.out.trans (Below.mono hx HB1.out.size))) (fun wy hy _=>HVA.out.below (HB1.out.trans (Below.mono (Below.trans hx hy) HB1.out.size))) HI1.out hws (by have:=HL.out;omega))
  rw [show (((114:UInt8).toNat:Nat):Int)=114 from rfl] at HMK
  rw [HAB2.out] at HCU
  clear HVA HVF HLF HI1 HI2 q
  go_wp2_with fail
  refine (HCU.out w5).mono ?_
  rintro e w6 ⟨uv,un,rfl,hou,hb6⟩
  obtain rfl:un=(abL x).length:=by have:=LxP.own_len hou;rw [this,intVals_length]
  obtain ⟨ua,uc,rfl⟩:=own_form hou
  have HR6:=hid (HR5.out.on hb6)
  have h6:Aft w1 w6:=HR6.out.2
  have hou2:=LxP.owns_base hou h5.size
  have hul:=abL_len x
  have hil:IntsAt w6 (.slice ua (abL x).length uc) (abL x):=intsAt_of_owns hou2 (by omega)
  have HC:=hid (marks_calls v5 (ansW x reg++[so]) 114 (.slice ua (abL x).length uc) (abL x) w1.heap.size w6 HR6.out.1 h6.size hil (fun wy _ hk=>intsAt_of_owns (KeepT.ints hou2 hk) (by omega)) HAI.out (by rw [List.length_append];have:=HLA.out;simp;omega) (by omega))
  rw [show (((114:UInt8).toNat:Nat):Int)=114 from rfl] at HC
  clear HCU HR5 hou hou2 hil hul h5 HR6 hb6
  generalize (abL x).length=an at *
  go_wp2_with fail
  refine HC.out.mono ?_
  rintro e w7 ⟨u7,rfl,ho7,hb7⟩
  obtain ⟨LW,hLW⟩:∃ LW,LW=ansW x reg++[so]++(abL x).map (mkw 114):=⟨_,rfl⟩
  rw [← hLW] at ho7
  have HR5:Hid (RowW w1 u7 LW w7):=⟨ho7,Below.trans h6 hb7⟩
  have HLE:=hid hLW
  have hlw2:LW.length≤100:=by rw [hLW,List.length_append,List.length_append,List.length_map];have:=HLA.out;have:=abL_len x;simp;omega
  have HLW:Hid (LW.length≤100000):=by show LW.length≤100000;omega
  have HLW2:Hid (LW.length≤9000):=by show LW.length≤9000;omega
  obtain ⟨p7,c7,h70⟩:=own_form ho7
  subst h70
  have h7a:Aft w1 w7:=HR5.out.2
  clear HC ho7 hb7 hLW hlw2 h6
  have HNW:=hid (fun wx=>NumW.write_calls x.n HI.out.2.2.2.1 wx)
  rw [show (⟨(itoa x.n).toArray⟩:ByteArray)=nmw x.n from rfl] at HNW
  have HMF:=hid (HMR.out 102 x.n HI.out.2.2.2.1)
  rw [show (((102:UInt8).toNat:Nat):Int)=102 from rfl] at HMF
  clear HMR
  by_cases q1:k=1
  ·have HNP:Hid (numW x.op x.n=[nmw x.n]):=by show numW _ _=_;unfold numW;rw [if_pos (by have:=HK.out;omega)]
   have e1:((k:Int) == 1)=true:=by simp;omega
   clear q1
   have hh:=HR5.out.2
   go_wp2_with fail
   refine (HNW.out w7).mono ?_
   rintro e w6 ⟨rfl,hb6⟩
   have HR6:=hid (HR5.out.on hb6)
   clear HR5 hb6 hh
   have hwn : [nmw x.n].length=1:=rfl
   have hlw:=HLW.out
   generalize hsw:nmw x.n=sw at *
   have HSW:=hid hsw
   clear hsw
   go_wp2_with (at_builtin;refine wpList_append_words (ws:=[sw]) rfl (.tmp 65) (.tmp 69) rfl HR6.out rfl rfl rfl (by decide) hlw ?_)
   intro v7 w7 hR7
   have HR7:Hid (RowW w1 v7 (LW++numW x.op x.n) w7):=by rw [HNP.out];exact hR7
   have h7:Aft w1 w7:=hR7.2
   clear hR7 HR6 hwn hlw HSW
   exact q150x1
  by_cases q14:k=14
  ·have HNP:Hid (numW x.op x.n=[nmw x.n]):=by show numW _ _=_;unfold numW;rw [if_pos (by have:=HK.out;omega)]
   have e1:((k:Int) == 1)=false:=by simp;omega
   have e14:((k:Int) == 14)=true:=by simp;omega
   clear q14 q1
   have hh:=HR5.out.2
   go_wp2_with fail
   refine (HNW.out w7).mono ?_
   rintro e w6 ⟨rfl,hb6⟩
   have HR6:=hid (HR5.out.on hb6)
   clear HR5 hb6 hh
   have hwn : [nmw x.n].length=1:=rfl
   have hlw:=HLW.out
   generalize hsw:nmw x.n=sw at *
   have HSW:=hid hsw
   clear hsw
   go_wp2_with (at_builtin;refine wpList_append_words (ws:=[sw]) rfl (.tmp 65) (.tmp 69) rfl HR6.out rfl rfl rfl (by decide) hlw ?_)
   intro v7 w7 hR7
   have HR7:Hid (RowW w1 v7 (LW++numW x.op x.n) w7):=by rw [HNP.out];exact hR7
   have h7:Aft w1 w7:=hR7.2
   clear hR7 HR6 hwn hlw HSW
   exact q150x1
  by_cases q3:k=3
  ·have HNP:Hid (numW x.op x.n=[mkw 102 x.n]):=by show numW _ _=_;unfold numW;rw [if_neg (by have:=HK.out;omega),if_pos (by have:=HK.out;omega)]
   have e1:((k:Int) == 1)=false:=by simp;omega
   have e14:((k:Int) == 14)=false:=by simp;omega
   have e3:((k:Int) == 3)=true:=by simp;omega
   clear q3 q1 q14
   have hh:=HR5.out.2
   go_wp2_with fail
   refine (HMF.out w7).mono ?_
   rintro e w6 ⟨rfl,hb6⟩
   have HR6:=hid (HR5.out.on hb6)
   clear HR5 hb6 hh
   have hwn : [mkw 102 x.n].length=1:=rfl
   have hlw:=HLW.out
   generalize hsw:mkw 102 x.n=sw at *
   have HSW:=hid hsw
   clear hsw
   go_wp2_with (at_builtin;refine wpList_append_words (ws:=[sw]) rfl (.tmp 74) (.tmp 78) rfl HR6.out rfl rfl rfl (by decide) hlw ?_)
   intro v7 w7 hR7
   have HR7:Hid (RowW w1 v7 (LW++numW x.op x.n) w7):=by rw [HNP.out];exact hR7
   have h7:Aft w1 w7:=hR7.2
   clear hR7 HR6 hwn hlw HSW
   exact q150x1
  by_cases q18:k=18
  ·have HNP:Hid (numW x.op x.n=[mkw 102 x.n]):=by show numW _ _=_;unfold numW;rw [if_neg (by have:=HK.out;omega),if_pos (by have:=HK.out;omega)]
   have e1:((k:Int) == 1)=false:=by simp;omega
   have e14:((k:Int) == 14)=false:=by simp;omega
   have e3:((k:Int) == 3)=false:=by simp;omega
   have e18:((k:Int) == 18)=true:=by simp;omega
   clear q18 q1 q14 q3
   have hh:=HR5.out.2
   go_wp2_with fail
   refine (HMF.out w7).mono ?_
   rintro e w6 ⟨rfl,hb6⟩
   have HR6:=hid (HR5.out.on hb6)
   clear HR5 hb6 hh
   have hwn : [mkw 102 x.n].length=1:=rfl
   have hlw:=HLW.out
   generalize hsw:mkw 102 x.n=sw at *
   have HSW:=hid hsw
   clear hsw
   go_wp2_with (at_builtin;refine wpList_append_words (ws:=[sw]) rfl (.tmp 74) (.tmp 78) rfl HR6.out rfl rfl rfl (by decide) hlw ?_)
   intro v7 w7 hR7
   have HR7:Hid (RowW w1 v7 (LW++numW x.op x.n) w7):=by rw [HNP.out];exact hR7
   have h7:Aft w1 w7:=hR7.2
   clear hR7 HR6 hwn hlw HSW
   exact q150x1
  ·have HNP:Hid (numW x.op x.n=[]):=by show numW _ _=_;unfold numW;rw [if_neg (by have:=HK.out;omega),if_neg (by have:=HK.out;omega)]
   have e1:((k:Int) == 1)=false:=by simp;omega
   have e14:((k:Int) == 14)=false:=by simp;omega
   have e3:((k:Int) == 3)=false:=by simp;omega
   have e18:((k:Int) == 18)=false:=by simp;omega
   clear q1 q14 q3 q18
   have HR7:Hid (RowW w1 (.slice p7 LW.length c7) (LW++numW x.op x.n) w7):=by
    show RowW _ _ _ _
    rw [HNP.out,List.append_nil]
    exact HR5.out
   have h7:=h7a
   obtain ⟨v7,hv7⟩:∃ v7,v7=Value.slice p7 LW.length c7:=⟨_,rfl⟩
   rw [← hv7] at HR7 ⊢
   clear hv7 HR5
   exact q150x1
end Go.Proofs.YtbebficgcemkoaaGreatDoor.WvI
