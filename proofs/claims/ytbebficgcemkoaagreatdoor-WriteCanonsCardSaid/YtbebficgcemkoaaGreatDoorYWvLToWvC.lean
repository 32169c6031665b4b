/- Walk over fescueref08.Lines. Walks over fescueref08.Write. -/
import Derived.Test.YtbebficgcemkoaaGreatDoorYWkPToWvI
import Derived.Test.YtbebficgcemkoaaGreatDoorYShNu
import Derived.Test.YtbebficgcemkoaaGreatDoorYLxCToLxV
import Derived.Test.YtbebficgcemkoaaGreatDoorYRcYToWrT
set_option maxRecDepth 100000
set_option maxHeartbeats 16000000
namespace Go.Proofs.YtbebficgcemkoaaGreatDoor.WvL
open Go.RowKit Go.Lib IntO SetP TyM TyP ShM ShP ShB ShE ShJ LxM LxP LxJ RwO RgZ RdV RdM RdN NumP WrM WrI WrP WkM WkL WkJ WkF WkP WvM WvK WvI Aft

theorem wpList_append_line2 {ops:Array Oper} {rest:List Oper} {o:Oper} {a:Act} {w' : World} {Q:Exit→Act→World→Prop} (hgd:o.guard=none) (s x:Operand)
  (ho:o.op=.call { callee:=.builtin .append,args:=#[s,x],argTypes:=#[44,44] })
  {w1:World} {u lv:Value} {L:List Ln} {ws:List ByteArray} {n:Nat} (hn0:n=w'.heap.size) (hS:LnS w1 u L w') (hs:a.eval s=u) (hx:a.eval x=.slice (some ⟨n,0,none⟩) 1 1) (hl:w'.ownsRow w1.heap.size 9 1 lv ws.length (strs ws)) (hn:L.length≤100000)
  (h:∀ v' w6,LnS w1 v' (L++[ws]) w6→KeepL w' w6→wpList Tryz.prog ops Q rest (a.put o.dst v') w6):wpList Tryz.prog ops Q (o :: rest) a (w'.alloc (.cells #[lv] 74)):=by
 subst hn0
 exact wpList_append_line hgd s x ho hS hs hx hl hn h

def rwV (x:Rw):List Value:=[x.2]
theorem rwW:Wide rwV 1:=fun _=>rfl
theorem rwRow (l:List Rw):rowOf rwV l=l.map Prod.snd:=by
 induction l with
 | nil=>rfl
 | cons x l ih=>rw [rowOf_cons,ih];rfl
theorem wp_append_line {o:Oper} {a:Act} {w' : World} {K:Act→World→Prop} {Q:Exit→Act→World→Prop} (s x:Operand)
  (ho:o.op=.call { callee:=.builtin .append,args:=#[s,x],argTypes:=#[44,44] })
  {w1:World} {u lv:Value} {L:List Ln} {ws:List ByteArray} (hS:LnS w1 u L w') (hs:a.eval s=u) (hx:a.eval x=.slice (some ⟨w'.heap.size,0,none⟩) 1 1) (hl:w'.ownsRow w1.heap.size 9 1 lv ws.length (strs ws)) (hn:L.length≤100000)
  (h:∀ v' w6,LnS w1 v' (L++[ws]) w6→KeepL w' w6→K (a.put o.dst v') w6):o.wp Tryz.prog a (w'.alloc (.cells #[lv] 74)) K Q:=by
 obtain ⟨⟨r,h1,h2⟩,h3⟩:=hS
 have hb:=LxP.alloc_below w' (.cells #[lv] 74)
 have h4:=h1.below hb
 have h5:=LxP.ownsRow_below hl hb
 obtain ⟨pa,ca,rfl⟩:=own_form hl
 have hrl:r.length=L.length:=by rw [← h2,List.length_map]
 refine wp_append_row rwW (by decide) elemL.info Tryz.underlying44 rfl s x ho w1.heap.size u hs r.length (r.map Prod.snd) h4.1 w'.heap.size 0 1 1 [(ws,Value.slice pa ws.length ca)] rfl hx (fun z hz v hv=>by obtain rfl:=List.mem_singleton.1 hz;obtain rfl:=List.mem_singleton.1 hv;rfl) (fun j v hj=>by rw [rwRow] at hj;rw [Nat.zero_add];exact lit_cells w' _ _ j v hj) (by unfold maxLen;simp;omega) (by simp;omega) (by have:=h3.size;rw [World.size_alloc];omega) fun v' w6 hown hg=>h v' w6 ⟨⟨r++[(ws,Value.slice pa ws.length ca)],h4.snoc (x:=(ws,_)) h5 hg (by rw [rwRow] at hown;exact hown),by rw [List.map_append,h2];rfl⟩,(Aft.go h3 hb).grown hg (by have:=h3.size;rw [World.size_alloc];omega) (fun g hg=>(h4.1.lt g hg).1)⟩ (fun j cs ty fr hty hj=>(hg.block j (by have:=(Array.getElem?_eq_some_iff.1 hj).1;rw [World.size_alloc];omega) (fun e=>by
  obtain ⟨cs2,fr2,h6⟩:=own_typed h4.1 _ e.symm
  have h7:=(hb.block j (Array.getElem?_eq_some_iff.1 hj).1).trans hj
  rw [h7] at h6
  simp at h6
  exact hty h6.2.1)).trans ((hb.block j (Array.getElem?_eq_some_iff.1 hj).1).trans hj))

theorem lines_calls (p:Px) (v:Value) (w:World) (hp:PrAt w v p) (hf:FineQ p) (hh:∀ (k:Nat) (h:k < p.funcs.length),Has1 p k k p.funcs[k]) :
  Calls Tryz.prog 28 #[v] w (fun e w'=>∃ u,e=.returned u∧(∃ r:List Rw,OwnL w.heap.size u r w'∧r.map Prod.fst=progW p)∧Below w.heap.size w w'):=by
 have HPW:=hid hp
 obtain ⟨vt,vf,rfl,htys,hfns⟩:=hp
 obtain ⟨w1,hw1⟩:∃ X,X=w.alloc (.cells #[vt,vf] 28):=⟨_,rfl⟩
 have k0:w1.heap[w.heap.size]?=some (.cells #[vt,vf] 28 (0,0)):=by rw [hw1];exact heap_alloc_new _ _
 have hb1:Below w.heap.size w w1:=by rw [hw1];exact LxP.alloc_below _ _
 obtain ⟨ta,tc,rfl⟩:=htys.slice
 obtain ⟨fa,fc,rfl,hfl⟩:=RowAt.slice hfns
 have HTY:=hid (htys.below hb1)
 have HFN:=hid (RowAt.below fnStays hfns hb1)
 have HP1:=hid (HPW.out.below hb1)
 have HCT:=hid (fun (x:Ty) pv wx (hp:IntsAt wx pv x.parts) (hl:x.parts.length≤1000) h1 h2 h3=>kind_calls x pv wx hp hl h1 h2 h3)
 have HCI:=hid (fun (x:Ix) (reg:Int) va vf wx h0 ha hff hl hlf i1 i2 i3 i4 i5 i6 i7=>WvI.ins_calls x reg va vf wx h0 ha hff hl hlf i1 i2 i3 i4 i5 i6 i7)
 have HFQ:=hid hf
 have HHH:=hid hh
 have HW1:=hid hw1
 have HB1:=hid hb1
 have hr:Aft w1 w1:=Aft.refl w1
 have l0:=later (WkT.cell_at k0 0 _ rfl)
 have l1:=later (WkT.cell_at k0 1 _ rfl)
 simp only [List.getElem_toArray,List.getElem_cons_zero,List.getElem_cons_succ] at l0 l1
 have HN0:=hid (LnS.nil w1)
 clear hw1 hb1 k0 htys hfns hf hh HPW
 go_enter Tryz.func28,Tryz.ntmps28
 go_wp2_with fail
 rw [← HW1.out]
 go_wp2_with fail
 go_loopg [3,4] p.types.length (fun gk u i wr=>∃ (k:Nat),k+gk=p.types.length∧i=.int .i64 k∧Hid (LnS w1 u ((p.types.take k).map tyW) wr)∧Aft w1 wr)
 case atStart=>exact ⟨0,by omega,rfl,HN0,hr⟩
 case round =>
  obtain ⟨k,hk,rfl,HS,hw⟩:=hrel
  have HK:=hid hk
  clear hk HN0
  by_cases hlt:k < p.types.length
  ·obtain ⟨tb,off,rfl,hltb,pv,c0,c1,c2,c3,hpv⟩:=(HTY.out.below hw).at k hlt
   have HTK:Hid ((p.types.take (k+1)).map tyW=(p.types.take k).map tyW++[tyW p.types[k]]):=by
    show _=_
    rw [List.take_succ_eq_append_getElem hlt,List.map_append];rfl
   have hmem:=List.getElem_mem hlt
   have HX:=hid (And.intro (HFQ.out.parts _ hmem) (HFQ.out.elem _ hmem))
   have HLN:Hid (((p.types.take k).map tyW).length≤100000):=by
    have:=HFQ.out.types
    show ((p.types.take k).map tyW).length≤100000
    rw [List.length_map,List.length_take];omega
   obtain ⟨pa,pc,rfl,_⟩:=TyP.ints_slice hpv
   have HC:=hid (HCT.out p.types[k] _ wr hpv HX.out.1 HX.out.2.1 HX.out.2.2.1 HX.out.2.2.2)
   have HK2:Hid (gk=p.types.length - k∧k < p.types.length):=⟨by have:=HK.out;omega,hlt⟩
   clear hpv HK hmem
   generalize p.types[k]=x at *
   generalize (p.types.take k).map tyW=LL at *
   have hki:(k:Int) < p.types.length:=by have:=HK2.out.2;omega
   clear hlt
   have HN16:=hid HFQ.out.types
   generalize hn1:p.types.length=n1 at *
   have HN1:=hid hn1
   have hnn:n1≤9223372036854775807:=by have:=HN16.out;omega
   clear hn1
   go_wp2_with fail
   refine HC.out.mono ?_
   rintro e w5 ⟨lv,rfl,hlo,hb5⟩
   obtain ⟨la,lc,rfl⟩:=own_form hlo
   have HS5:=hid (HS.out.on hb5)
   have hlo2:=LxP.owns_base hlo HS.out.aft.size
   have hln:=HLN.out
   clear HC hlo hb5 c0 c1 c2 c3 HX HS
   go_wp2_with (at_builtin;refine wpList_append_line2 rfl (.tmp 16) (.tmp 23) rfl rfl HS5.out rfl rfl hlo2 hln ?_)
   intro v6 w6 hS6 _
   have HS6:=hid hS6
   have h6:=hS6.aft
   clear hS6 HS5 hlo2 hln hw
   go_wp2
   go_roundg (gk - 1)
   case measure=>have:=HK2.out;omega
   case rel=>exact ⟨k+1,by have:=HK2.out;have:=HN1.out;omega,by go_num,by rw [HTK.out];exact HS6,h6⟩
  obtain rfl:k=p.types.length:=by have:=HK.out;omega
  rw [List.take_length] at HS
  have HS0:Hid (LnS w1 u3 (p.types.map tyW++funcsW p.types (p.funcs.take 0)) wr):=by
   rw [List.take_zero]
   show LnS w1 u3 (p.types.map tyW++[]) wr
   rw [List.append_nil]
   exact HS.out
  clear HS HK hlt
  obtain ⟨wo,hwo⟩:∃ wo:World,wo=wr:=⟨wr,rfl⟩
  subst hwo
  obtain ⟨gO,hgo⟩:∃ go:Nat,go=gk:=⟨gk,rfl⟩
  subst hgo
  go_wp2
  go_loopg [3,5,6,7,8] p.funcs.length (fun gk u i _ _ _ wr=>∃ (k:Nat),k+gk=p.funcs.length∧i=.int .i64 k∧Hid (LnS w1 u (p.types.map tyW++funcsW p.types (p.funcs.take k)) wr)∧Hid ((p.types.map tyW++funcsW p.types (p.funcs.take k)).length≤20+3000 * k)∧Aft w1 wr)
  case atStart=>exact ⟨0,by omega,rfl,HS0,by have:=HFQ.out.types;show (p.types.map tyW++[]).length≤_;simp;omega,hw⟩
  case round =>
   obtain ⟨k,hk,rfl,HS,HL,hw⟩:=hrel
   have HK:=hid hk
   clear hk HS0
   by_cases hlt:k < p.funcs.length
   rotate_left
   ·obtain rfl:k=p.funcs.length:=by have:=HK.out;omega
    rw [List.take_length] at HS
    have HSF:Hid (LnS w1 u3 (progW p) wr):=HS
    clear HS HL HK hlt HTY HFN HCT HFQ HHH HP1
    generalize p.funcs.length=n2 at *
    generalize p.types.length=n1 at *
    obtain ⟨⟨r,h1,h2⟩,h3⟩:=HSF.out
    obtain ⟨pa,pc,rfl⟩:=own_form h1.1
    have HR:=hid (And.intro h1 h2)
    clear h1 h2 HSF
    go_wp2
    go_ret
    exact ⟨_,rfl,⟨r,HR.out.1.base HB1.out.size,HR.out.2⟩,HB1.out.trans (Below.mono h3 HB1.out.size)⟩
   obtain ⟨fb,foff,rfl,hfb,vb,c0',c1',hbl⟩:=HFN.out.at k hlt
   have c0:=later c0' wr hw
   have c1:=later c1' wr hw
   clear c0' c1'
   have hmem:=List.getElem_mem hlt
   have HX:=hid (And.intro (HFQ.out.sig _ hmem) (And.intro (HFQ.out.blocks _ hmem) (And.intro (HFQ.out.ins _ hmem) (HFQ.out.en _ hmem))))
   have HFK:Hid (p.types.map tyW++funcsW p.types (p.funcs.take (k+1))=(p.types.map tyW++funcsW p.types (p.funcs.take k))++(fnW p.funcs[k].sig :: blocksW p.funcs[k].blocks (regOf p.types p.funcs[k].sig))):=by
    show _=_
    rw [List.take_succ_eq_append_getElem hlt,funcsW_snoc,List.append_assoc]
   have HK2:Hid (gk=p.funcs.length - k∧k < p.funcs.length∧p.funcs.length≤8):=⟨by have:=HK.out;omega,hlt,HFQ.out.funcs⟩
   have HH1:=hid (HHH.out k hlt)
   clear HK hmem
   generalize p.funcs[k]=x at *
   generalize hLL:p.types.map tyW++funcsW p.types (p.funcs.take k)=LL at *
   clear hLL
   obtain ⟨sg,bl⟩:=x
   simp only at *
   obtain ⟨s,rfl⟩:∃ s:Nat,sg=s:=⟨sg.toNat,by have:=HX.out.1;omega⟩
   have hst:s < p.types.length:=by have:=HX.out.1;omega
   have HRG:Hid (regOf p.types (s:Int)=(p.types[s].parts.length:Int)∧p.types[s].parts.length≤1000∧parOf p.types (s:Int)=p.types[s].parts.length):=⟨by
    unfold regOf;rw [Int.toNat_natCast,List.getElem?_eq_getElem hst],HFQ.out.parts _ (List.getElem_mem hst),ShE.parOf_at hst⟩
   obtain ⟨ba,bc,rfl,hbl9⟩:=RowAt.slice hbl
   have HBL:=hid hbl
   clear hbl
   generalize p.types[s].parts.length=pn at *
   have HNU:=hid (fun (j i:Nat) (hj:j≤bl.length) (hi:i≤1000000) wx (hx:Aft w1 wx)=>ShRH.number_calls p k k ⟨s,bl⟩ j i _ wx (HP1.out.below hx) HH1.out hj (by
    have h1:manyB bl≤128:=HX.out.2.1.2
    have h2:=HRG.out.2
    show parOf p.types (s:Int)+manyB bl≤1000000
    omega) hi)
   simp only at HNU
   rw [HRG.out.2.2] at HNU
   have hki:(k:Int) < p.funcs.length:=by have:=HK2.out.2.1;omega
   have h64s:I64 (s:Int):=by have:=HFQ.out.types;unfold I64;omega
   have HC1:=hid (mark_calls 116 (s:Int) h64s (wr.alloc (.cells #[.int .i64 s,.slice ba bl.length bc] 49)))
   rw [show (((116:UInt8).toNat:Nat):Int)=116 from rfl] at HC1
   have HSA:=hid (HS.out.on (LxP.alloc_below wr (.cells #[.int .i64 s,.slice ba bl.length bc] 49)))
   have HLL:Hid (LL.length≤25000):=by have:=HL.out;have:=HK2.out;show LL.length≤25000;omega
   have HLN:Hid (LL.length≤100000):=by have:=HL.out;have:=HK2.out;show LL.length≤100000;omega
   have k7:=heap_alloc_new wr (.cells #[.int .i64 s,.slice ba bl.length bc] 49)
   have HK7:=hid k7
   clear k7 hlt hst h64s
   have HFW:Hid (fnW (s:Int)=[mk [102,117,110,99],mkw 116 (s:Int)]):=rfl
   generalize fnW (s:Int)=fw at *
   generalize mkw 116 (s:Int)=s1 at *
   have HRL:=hid (show bl.length≤16∧insN bl≤128 from HX.out.2.1)
   clear HHH HP1 HH1
   generalize hn2:p.funcs.length=n2 at *
   have HN2:=hid hn2
   clear hn2
   generalize hn1:p.types.length=n1 at *
   clear hn1
   generalize hn3:bl.length=n3 at *
   have HN3:=hid hn3
   clear hn3
   go_upto_region 10 with fail
   go_wp2_with fail
   refine HC1.out.mono ?_
   rintro e w5 ⟨rfl,hb5⟩
   have HS5:=hid ((HSA.out.on hb5).on (LxP.alloc_below w5 (.cells #[.string (mk [102,117,110,99]),.string s1] 9)))
   have hlo2:(w5.alloc (.cells #[.string (mk [102,117,110,99]),.string s1] 9)).ownsRow w1.heap.size 9 1 (.slice (some ⟨w5.heap.size,0,none⟩) 2 2) fw.length (strs fw):=by
    rw [HFW.out]
    exact LxP.owns_base (LxP.ownsRow_lit w5 (strs [mk [102,117,110,99],s1]) 9 2 rfl (by decide)) (HSA.out.on hb5).aft.size
   have hln:=HLN.out
   have HK75:=hid (((LxP.alloc_below w5 (.cells #[.string (mk [102,117,110,99]),.string s1] 9)).block _ (by have:=hb5.size;rw [World.size_alloc] at this;omega)).trans ((hb5.block _ (by rw [World.size_alloc];omega)).trans HK7.out))
   obtain ⟨n7,hn7⟩:∃ n7,n7=wr.heap.size:=⟨_,rfl⟩
   rw [← hn7] at HK75
   have HN7:=hid hn7
   have hsz5:w5.heap.size+1=(w5.alloc (.cells #[.string (mk [102,117,110,99]),.string s1] 9)).heap.size:=by rw [World.size_alloc]
   have HSZ5:=hid hsz5
   clear HC1 HSA HK7 hb5 c0 c1 HS hn7 hsz5
   go_wp2_with (at_builtin;refine wpList_append_line2 rfl (.tmp 37) (.tmp 42) rfl HSZ5.out HS5.out rfl rfl hlo2 hln ?_)
   intro v6 w6 hS6 hkp
   have HS6:=hid hS6
   have h6:=hS6.aft
   have k7:=hkp _ _ _ _ (by decide) HK75.out
   rw [← HN7.out]
   have HK76:=hid k7
   clear hS6 HS5 hlo2 hln hkp k7 HK75 HN7 HSZ5
   have HS60:Hid (LnS w1 v6 (LL++fw :: blocksW (bl.take 0) (pn:Int)) w6):=HS6.out
   have HL60:Hid ((LL++fw :: blocksW (bl.take 0) (pn:Int)).length≤LL.length+1+130 * 0):=by
    show (LL++[fw]).length≤_
    rw [List.length_append];exact Nat.le_refl _
   clear HS6
   obtain ⟨w2,hw2⟩:∃ wo:World,wo=wr:=⟨wr,rfl⟩
   subst hw2
   obtain ⟨g2,hg2⟩:∃ go:Nat,go=gk:=⟨gk,rfl⟩
   subst hg2
   go_wp2_with fail
   go_loopg [3,7,8] n3 (fun gk u i _ wr=>∃ (j:Nat),j+gk=n3∧i=.int .i64 j∧Hid (LnS w1 u (LL++fw :: blocksW (bl.take j) (pn:Int)) wr)∧Hid ((LL++fw :: blocksW (bl.take j) (pn:Int)).length≤LL.length+1+130 * j)∧Hid (wr.heap[n7]?=some (.cells #[.int .i64 s,.slice ba n3 bc] 49 (0,0)))∧Aft w1 wr)
   case atStart=>exact ⟨0,by omega,rfl,HS60,HL60,HK76,h6⟩
   case round =>
    obtain ⟨j,hj,rfl,HS3,HL3,HK3,hw3⟩:=hrel
    have HJ:=hid hj
    clear hj HS60 HL60 HK76 h6
    by_cases hlt:j < bl.length
    rotate_left
    ·have htk:bl.take j=bl:=List.take_of_length_le (by have:=HJ.out;omega)
     rw [htk] at HS3 HL3
     obtain rfl:j=n3:=by have:=HJ.out;have:=HN3.out;omega
     clear htk
     have hfk:=HFK.out
     rw [HRG.out.1] at hfk
     have HFK2:=hid hfk
     have HS4:Hid (LnS w1 u3 (p.types.map tyW++funcsW p.types (p.funcs.take (k+1))) wr):=by rw [HFK2.out];exact HS3
     have HL4:Hid ((p.types.map tyW++funcsW p.types (p.funcs.take (k+1))).length≤20+3000 * (k+1)):=by
      rw [HFK2.out]
      have h1:=HL3.out;have h2:=HL.out;have h3:=HRL.out.1
      show (LL++fw :: blocksW bl ↑pn).length≤_
      omega
     have kF:=HK3.out
     have f1:=WkT.cell_at kF 1 _ rfl
     simp only [List.getElem_toArray,List.getElem_cons_zero,List.getElem_cons_succ] at f1
     clear hfk HFK HFK2 HS3 HL3 HL HRL HJ hlt HK3 kF HNU
     go_wp2
     go_roundg (g2 - 1)
     case measure=>have:=HK2.out;have:=HN2.out;omega
     case rel=>exact ⟨k+1,by have:=HK2.out;have:=HN2.out;omega,by go_num,HS4,HL4,hw3⟩
    obtain ⟨yb,yoff,hya,hyb,vi,d0',d1',d2',d3',d4',hin⟩:=HBL.out.at j hlt
    subst hya
    have d0:=later d0'
    have d1:=later d1'
    have d2:=later d2'
    have d3:=later d3'
    have d4:=later d4'
    obtain ⟨ia,ic,rfl,hil⟩:=RowAt.slice hin
    have HIN:=hid hin
    have HY:=hid (And.intro (HX.out.2.2.1 _ (List.getElem_mem hlt)) (HX.out.2.2.2 _ (List.getElem_mem hlt)))
    have hti:=insN_take bl j hlt
    have htl:=insN_le bl (j+1)
    have HBK:Hid (LL++fw :: blocksW (bl.take (j+1)) (pn:Int)=(LL++fw :: blocksW (bl.take j) (pn:Int))++(blW :: (insWs bl[j].ins (((pn+insN (bl.take j):Nat)):Int)++[endW bl[j].en]))):=by
     show _=_
     rw [List.take_succ_eq_append_getElem hlt,blocksW_snoc,← List.cons_append,← List.append_assoc,Int.natCast_add]
    have HJ2:Hid (gk=n3 - j∧j < n3):=⟨by have:=HJ.out;omega,by have:=HN3.out;omega⟩
    have HIT:Hid (insN (bl.take (j+1))=insN (bl.take j)+bl[j].ins.length∧insN (bl.take (j+1))≤128):=⟨hti,by have:=HRL.out.2;omega⟩
    have HNJ:=hid (fun (m:Nat) (hm:m≤1000000) wx (hx:Aft w1 wx)=>HNU.out j m (by have:=HJ2.out;omega) hm wx hx)
    clear d0' d1' d2' d3' d4' hin hti htl HJ HNU
    generalize bl[j]=y at *
    clear hlt
    obtain ⟨yi,ye⟩:=y
    simp only at *
    rw [show manyB (bl.take j)=insN (bl.take j) from rfl] at HNJ
    generalize hL3:LL++fw :: blocksW (bl.take j) (pn:Int)=L3 at *
    clear hL3
    have HQ3:Hid (∀ m:Nat,pn+(insN (bl.take j)+m)=(pn+insN (bl.take j))+m):=fun m=>by omega
    generalize hq3:pn+insN (bl.take j)=q3 at *
    have HQ4:Hid (q3≤1200):=by have:=HRG.out.2;have:=HIT.out;show q3≤1200;omega
    clear hq3
    have HSA:=hid (HS3.out.on (LxP.alloc_below wr (.cells #[.string (mk [98,108,111,99,107])] 9)))
    have HLN:Hid (L3.length≤50000):=by have:=HL3.out;have:=HLL.out;have:=HJ2.out;have:=HRL.out.1;have:=HN3.out;show L3.length≤50000;omega
    have HKA:=hid ((LxP.alloc_below wr (.cells #[.string (mk [98,108,111,99,107])] 9)).block _ (Array.getElem?_eq_some_iff.1 HK3.out).1 |>.trans HK3.out)
    have hlo2:(wr.alloc (.cells #[.string (mk [98,108,111,99,107])] 9)).ownsRow w1.heap.size 9 1 (.slice (some ⟨wr.heap.size,0,none⟩) 1 1) blW.length (strs blW):=LxP.owns_base (LxP.ownsRow_lit wr (strs [mk [98,108,111,99,107]]) 9 1 rfl (by decide)) HS3.out.aft.size
    have hsz5:wr.heap.size+1=(wr.alloc (.cells #[.string (mk [98,108,111,99,107])] 9)).heap.size:=by rw [World.size_alloc]
    have HSZ5:=hid hsz5
    have hln:L3.length≤100000:=by have:=HLN.out;omega
    have f1:=WkT.cell_at HK3.out 1 _ rfl
    simp only [List.getElem_toArray,List.getElem_cons_zero,List.getElem_cons_succ] at f1
    generalize hbw:blW=bw at *
    clear hbw hsz5
    generalize hn4:yi.length=n4 at *
    have HN4:=hid hn4
    clear hn4
    have hji:(j:Int) < n3:=by have:=HJ2.out;omega
    go_wp2_with (at_builtin;refine wpList_append_line2 rfl (.tmp 51) (.tmp 53) rfl HSZ5.out HSA.out rfl rfl hlo2 hln ?_)
    intro v7 w7 hS7 hkp
    have h7:=hS7.aft
    have HKA7:=hid (hkp _ _ _ _ (by decide) HKA.out)
    have HS70:Hid (LnS w1 v7 (L3++bw :: insWs (yi.take 0) (q3:Int)) w7):=hS7
    have HL70:Hid ((L3++bw :: insWs (yi.take 0) (q3:Int)).length=L3.length+1+0):=by
     show (L3++[bw]).length=_
     rw [List.length_append];rfl
    clear hS7 HSA hlo2 hln hkp HKA HSZ5 HS3 HK3 f1
    obtain ⟨w3,hw3e⟩:∃ wo:World,wo=wr:=⟨wr,rfl⟩
    subst hw3e
    obtain ⟨g3,hg3⟩:∃ go:Nat,go=gk:=⟨gk,rfl⟩
    subst hg3
    go_wp2_with fail
    go_loopg [3,8] n4 (fun gk u i wr=>∃ (m:Nat),m+gk=n4∧i=.int .i64 m∧Hid (LnS w1 u (L3++bw :: insWs (yi.take m) (q3:Int)) wr)∧Hid ((L3++bw :: insWs (yi.take m) (q3:Int)).length=L3.length+1+m)∧Hid (wr.heap[n7]?=some (.cells #[.int .i64 s,.slice (some ⟨yb,yoff,none⟩) n3 bc] 49 (0,0)))∧Aft w1 wr)
    case atStart=>exact ⟨0,by omega,rfl,HS70,HL70,HKA7,h7⟩
    case round =>
     obtain ⟨m,hm,rfl,HS8,HL8,HKA8,hw4⟩:=hrel
     have HM:=hid hm
     clear hm HS70 HL70 HKA7 h7
     have f1:=WkT.cell_at HKA8.out 1 _ rfl
     simp only [List.getElem_toArray,List.getElem_cons_zero,List.getElem_cons_succ] at f1
     by_cases hlt:m < yi.length
     rotate_left
     ·have htk:yi.take m=yi:=List.take_of_length_le (by omega)
      rw [htk] at HS8 HL8
      have hmn:m=n4:=by have:=HM.out;have:=HN4.out;omega
      have HE:=hid (WvK.end_calls ye wr HY.out.2.1 HY.out.2.2.1 HY.out.2.2.2)
      have hln:(L3++bw :: insWs yi (q3:Int)).length≤100000:=by have:=HL8.out;have:=HLN.out;have:=HIT.out;have:=HN4.out;omega
      have hmi:¬ ((m:Int) < n4):=by omega
      have HMN:=hid hmn
      clear htk hlt hmn HNJ
      go_wp2_with fail
      refine HE.out.mono ?_
      rintro e w5 ⟨lv,rfl,hlo,hb5⟩
      obtain ⟨la3,lc3,rfl⟩:=own_form hlo
      have HS5:=hid (HS8.out.on hb5)
      have hlo2:=LxP.owns_base hlo HS8.out.aft.size
      have HKA5:=hid ((hb5.block _ (Array.getElem?_eq_some_iff.1 HKA8.out).1).trans HKA8.out)
      clear HE hlo hb5 HS8 HKA8 f1
      go_wp2_with (at_builtin;refine wpList_append_line2 rfl (.tmp 84) (.tmp 92) rfl rfl HS5.out rfl rfl hlo2 hln ?_)
      intro v9 w9 hS9 hkp
      have h9:=hS9.aft
      have HKA9:=hid (hkp _ _ _ _ (by decide) HKA5.out)
      have HS9:Hid (LnS w1 v9 (LL++fw :: blocksW (bl.take (j+1)) (pn:Int)) w9):=by
       show LnS w1 v9 _ w9
       rw [HBK.out];simpa using hS9
      have HL9:Hid ((LL++fw :: blocksW (bl.take (j+1)) (pn:Int)).length≤LL.length+1+130 * (j+1)):=by
       have h1:=HL8.out;have h2:=HL3.out;have h3:=HIT.out;have h4:=HN4.out
       have h5:=HMN.out
       show (LL++fw :: blocksW (bl.take (j+1)) (pn:Int)).length≤LL.length+1+130 * (j+1)
       rw [List.length_append,List.length_cons] at h1
       rw [HBK.out,List.length_append,List.length_cons,List.length_append,List.length_singleton]
       omega
      clear hS9 hkp HS5 hlo2 hln HKA5 HIT HL8
      go_wp2
      go_roundg (g3 - 1)
      case measure=>have:=HJ2.out;omega
      case rel=>exact ⟨j+1,by have:=HJ2.out;omega,by go_num,HS9,HL9,HKA9,h9⟩
     obtain ⟨xb,xoff,hxa,hxb,va,vf,e0',e1',e2',e3',e4',e5',e6',hva,hvf⟩:=HIN.out.at m hlt
     subst hxa
     have e0:=later e0'
     have e1:=later e1'
     have e2:=later e2'
     have e3:=later e3'
     have e4:=later e4'
     have e5:=later e5'
     have e6:=later e6'
     obtain ⟨a1,a2,rfl,_⟩:=TyP.ints_slice hva
     obtain ⟨f1a,f2a,rfl,_⟩:=TyP.ints_slice hvf
     have HXO:=hid (HY.out.1 _ (List.getElem_mem hlt))
     have HM2:Hid (gk=n4 - m∧m < n4):=⟨by have:=HM.out;omega,by have:=HN4.out;omega⟩
     have HTK:Hid (insWs (yi.take (m+1)) (q3:Int)=insWs (yi.take m) (q3:Int)++[insW yi[m] ((q3+m:Nat):Int)]):=by
      show _=_
      rw [List.take_succ_eq_append_getElem hlt,insWs_snoc,List.length_take,Nat.min_eq_left (by omega),Int.natCast_add]
     have HC1:=hid (fun wx (hx:Aft w1 wx)=>HNJ.out m (by have:=HM2.out;have:=HIT.out;have:=HN4.out;omega) wx hx)
     rw [HQ3.out] at HC1
     obtain ⟨q,hq⟩:∃ q,q=q3+m:=⟨_,rfl⟩
     rw [← hq] at HC1 HTK
     have hq64:I64 (q:Int):=by have:=HQ4.out;have:=HM2.out;have:=HN4.out;have:=HIT.out;unfold I64;omega
     have HC4:=hid (fun wx (hx:Aft w1 wx)=>HCI.out yi[m] (q:Int) _ _ wx HXO.out.1.op (hva.below hx) (hvf.below hx) HXO.out.2 HXO.out.1.frm1 (fun n hn=>nn64 (HXO.out.1.args n hn)) (fun n hn=>nn64 (HXO.out.1.frm n hn)) (nn64 HXO.out.1.typ) (nn64 HXO.out.1.a) (nn64 HXO.out.1.b) HXO.out.1.n hq64)
     have hln:(L3++bw :: insWs (yi.take m) (q3:Int)).length≤100000:=by have:=HL8.out;have:=HLN.out;have:=HIT.out;have:=HM2.out;have:=HN4.out;omega
     clear e0' e1' e2' e3' e4' e5' e6' hva hvf HXO HM hq64 hq HNJ
     generalize yi[m]=x at *
     clear hlt
     generalize hL4:insWs (yi.take m) (q3:Int)=IW at *
     clear hL4
     have hmi:(m:Int) < n4:=by have:=HM2.out;omega
     generalize hxl:x.args.length=xn at *
     clear hxl
     generalize hxf:x.frm.length=fn at *
     clear hxf
     have HS8d:=hid (HS8.out.on (Below.refl _ wr).drew)
     have hd:Aft w1 wr.drew∧wr.drew.cell? ⟨n7,1,none⟩=some (.slice (some ⟨yb,yoff,none⟩) n3 bc):=⟨hw4.drew,f1⟩
     have HKAd:Hid (wr.drew.heap[n7]?=some (.cells #[.int .i64 s,.slice (some ⟨yb,yoff,none⟩) n3 bc] 49 (0,0))):=HKA8.out
     go_upto_region 18 with fail
     refine wp_region_noPanic ?_
     refine wp_region_Z (S:=(fun w'=>Aft w1 w'∧w'.cell? ⟨n7,1,none⟩=some (.slice (some ⟨yb,yoff,none⟩) n3 bc))) (Z:=[]) (by kernel_rfl) ?_ (fun hHeld=>?_)
     ·exact hd
     refine zP 0 rfl ?_
     refine zP 1 rfl ?_
     refine zT 2 rfl ?_
     refine zP 3 rfl ?_
     refine zP 4 rfl ?_
     refine zP 5 rfl ?_
     refine zT 6 rfl ?_
     refine zP 7 rfl ?_
     refine zP 8 rfl ?_
     refine zT 9 rfl ?_
     refine zT 10 rfl ?_
     refine zP 11 rfl ?_
     refine zP 12 rfl ?_
     refine zP 13 rfl ?_
     refine zC 14 rfl (fun K hK=>?_)
     go_simp
     (go_at_call 53;(with_reducible refine (HC1.out _ hd.1).mono ?_);rintro e wx ⟨rfl,hbx⟩)
     have HSX:=hid (HS8d.out.on hbx)
     have HKX:=hid ((hbx.block _ (Array.getElem?_eq_some_iff.1 HKAd.out).1).trans HKAd.out)
     have hx:Aft w1 wx∧wx.cell? ⟨n7,1,none⟩=some (.slice (some ⟨yb,yoff,none⟩) n3 bc):=⟨hd.1.go hbx,by
      have:=WkT.cell_at HKX.out 1 _ rfl
      simpa using this⟩
     refine hK.out _ _ ?_ (fun hHeld=>?_)
     ·exact hx
     clear hK K
     refine zC 15 rfl (fun K hK=>?_)
     go_simp
     (go_at_call 52;(with_reducible refine (HC4.out _ hx.1).mono ?_);rintro e wy ⟨lv,rfl,hlo,hby⟩)
     obtain ⟨la3,lc3,rfl⟩:=own_form hlo
     have HSY:=hid (HSX.out.on hby)
     have hlo2:=LxP.owns_base hlo hx.1.size
     have HKY:=hid ((hby.block _ (Array.getElem?_eq_some_iff.1 HKX.out).1).trans HKX.out)
     have hy:Aft w1 wy∧wy.cell? ⟨n7,1,none⟩=some (.slice (some ⟨yb,yoff,none⟩) n3 bc):=⟨hx.1.go hby,by
      have:=WkT.cell_at HKY.out 1 _ rfl
      simpa using this⟩
     refine hK.out _ _ ?_ (fun hHeld=>?_)
     ·exact hy
     clear hK K
     refine zC 16 rfl (fun K hK=>?_)
     go_simp
     refine hK.out _ _ ?_ (fun hHeld=>?_)
     ·exact ⟨hy.1.alloc _,ShP.keep_below (LxP.alloc_below _ _) hy.2⟩
     clear hK K
     refine zC 17 rfl (fun K hK=>?_)
     rw [if_pos (by rfl)]
     refine wp_append_line (.tmp 66) (.tmp 82) rfl HSY.out rfl rfl hlo2 hln ?_
     intro v9 w9 hS9 hkp
     have h9:=hS9.aft
     have HKA9:=hid (hkp _ _ _ _ (by decide) HKY.out)
     have HS9:Hid (LnS w1 v9 (L3++bw :: insWs (yi.take (m+1)) (q3:Int)) w9):=by
      show LnS w1 v9 _ w9
      rw [HTK.out];simpa using hS9
     have HL9:Hid ((L3++bw :: insWs (yi.take (m+1)) (q3:Int)).length=L3.length+1+(m+1)):=by
      have h1:=HL8.out
      show (L3++bw :: insWs (yi.take (m+1)) (q3:Int)).length=L3.length+1+(m+1)
      rw [List.length_append,List.length_cons] at h1
      rw [HTK.out,List.length_append,List.length_cons,List.length_append,List.length_singleton]
      omega
     have h9c:Aft w1 w9∧w9.cell? ⟨n7,1,none⟩=some (.slice (some ⟨yb,yoff,none⟩) n3 bc):=⟨h9,by
      have:=WkT.cell_at HKA9.out 1 _ rfl
      simpa using this⟩
     refine hK.out _ _ ?_ (fun hHeld=>?_)
     ·exact h9c
     clear hK K
     refine zP 18 rfl ?_
     refine wpAnyZ_done (by kernel_rfl) ?_ _
     refine NoPanic.normal ?_
     clear hHeld hd hx hy h9c hS9 hkp hlo hlo2 hbx hby HSX HSY HKX HKY HS8d HKAd f1 HC1 HC4 e0 e1 e2 e3 e4 e5 e6 hln HL8 hw4 HS8 HKA8
     go_wp2
     go_roundg (gk - 1)
     case measure=>have:=HM2.out;omega
     case rel=>exact ⟨m+1,by have:=HM2.out;omega,by go_num,HS9,HL9,HKA9,h9⟩
end Go.Proofs.YtbebficgcemkoaaGreatDoor.WvL
namespace Go.Proofs.YtbebficgcemkoaaGreatDoor.WvW
open Go.RowKit Go.Lib TyM TyP ShM ShP ShI LxM LxP LxK LxJ LxN RdM RdN RdV NumP WrM WrI WrP WrC WrT WkJ WkF WkB WkW ShJ Aft

theorem has_all {p:Px} (h:chkP p=0) (hf:FineQ p):∀ (k:Nat) (hk:k < p.funcs.length),Has1 p k k p.funcs[k]:=fun k hk=>by
 have hm:=List.getElem_mem hk
 obtain ⟨_,_,_,h4⟩:=chk_zero h
 obtain ⟨_,_,h5,h6,h7⟩:=may_zero (h4 _ hm)
 exact ⟨rfl,hk,List.getElem?_eq_getElem hk,(hf.sig _ hm).1,(hf.sig _ hm).2,h5,h6,h7⟩
theorem writeR_calls (p:Px) (v:Value) (w:World) (hp:PrAt w v p) (hs:ShP.Small p) (hok:POk p) (hn:N64 p) :
  Calls Tryz.prog 15 #[v] w (TextR (writeO p) w):=by
 have hp0:=hp
 obtain ⟨vt,vf,rfl,htys,hfns⟩:=hp
 obtain ⟨w1,hw1⟩:∃ X,X=w.alloc (.cells #[vt,vf] 28):=⟨_,rfl⟩
 have k0:w1.heap[w.heap.size]?=some (.cells #[vt,vf] 28 (0,0)):=by rw [hw1];exact heap_alloc_new _ _
 have hb1:Below w.heap.size w w1:=by rw [hw1];exact LxP.alloc_below _ _
 have HCK:=hid (ShRG.checkP_calls p _ w1 (hp0.below hb1) hs hok)
 have HPR:=hid (fun (hc:chkP p=0) wx (hx:Aft w1 wx)=>WvL.lines_calls p _ wx (hp0.below (hb1.trans (Below.mono hx hb1.size))) (fine_of hc hok hn) (has_all hc (fine_of hc hok hn)))
 have HFT:=hid (fun (hc:chkP p=0)=>prog_fits (prog_ok hc hok hn) (fine_of hc hok hn))
 have HJ:=hid (fun u wx (hl:LinesAt wx u (progW p)) (hf:Fits (progW p))=>LxV.joinR_calls u (progW p) wx hl hf)
 have HE:Hid (writeO p=if chkP p=0 then (jnE (unL (progW p)),jnT (unL (progW p))) else (chkP p,[])):=rfl
 obtain ⟨ta,tc,rfl⟩:=htys.slice
 obtain ⟨fa,fc,rfl,hfl⟩:=RowAt.slice hfns
 have HW1:=hid hw1
 have HB1:=hid hb1
 have hr:Aft w1 w1:=Aft.refl w1
 have l0:=later (WkT.cell_at k0 0 _ rfl)
 have l1:=later (WkT.cell_at k0 1 _ rfl)
 simp only [List.getElem_toArray,List.getElem_cons_zero,List.getElem_cons_succ] at l0 l1
 clear hw1 hb1 k0 htys hfns hp0 hs hok hn
 generalize chkP p=ck at *
 generalize writeO p=wo at *
 go_enter Tryz.func15,Tryz.ntmps15
 go_wp2_with fail
 rw [← HW1.out]
 go_wp2_with fail
 refine HCK.out.mono ?_
 rintro e w2 ⟨rfl,hb2⟩
 have h2:=hr.go hb2
 clear HCK hb2
 by_cases hc:ck=0
 ·have HE1:=hid (HE.out.trans (if_pos hc))
  have HPC:=hid (HPR.out hc w2 h2)
  have HF:=hid (HFT.out hc)
  clear HE HPR HFT
  go_wp2_with fail
  refine HPC.out.mono ?_
  rintro e w3 ⟨u,rfl,⟨r,hol,hrl⟩,hb3⟩
  have h3:=h2.go hb3
  have hla:LinesAt w3 u (progW p):=by
   rw [← hrl]
   exact hol.lines (by have:=HF.out.lines;rw [← hrl,List.length_map] at this;omega) (fun x hx=>by have:=HF.out.words x.1 (by rw [← hrl];exact List.mem_map_of_mem hx);omega)
  have HJC:=hid (HJ.out u w3 hla HF.out)
  clear HPC HJ HF hol hrl hla hb3
  go_wp2_with fail
  refine HJC.out.mono ?_
  rintro e w4 ⟨rfl,hb4⟩
  have HB:=hid (HB1.out.trans (Below.mono (h3.go hb4) HB1.out.size))
  clear HJC hb4
  generalize jnT (unL (progW p))=jt at *
  generalize jnE (unL (progW p))=je at *
  go_wp2
  go_ret2
  rw [HE1.out]
  exact ⟨rfl,HB.out⟩
 ·have HE1:=hid (HE.out.trans (if_neg hc))
  have HB:=hid (HB1.out.trans (Below.mono h2 HB1.out.size))
  clear HE HPR HFT HJ
  go_wp2
  go_ret2
  rw [HE1.out]
  exact ⟨rfl,HB.out⟩

end Go.Proofs.YtbebficgcemkoaaGreatDoor.WvW
