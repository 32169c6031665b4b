/- The reader's table of words, as a row's condition lays it. -/
import Derived.Test.YtpejpnffcepdlaaGreatDoorVShTab
import Derived.Test.YtpejpnffcepdlaaGreatDoorVRcO
namespace Go.Proofs.YtpejpnffcepdlaaGreatDoor.RdTab
open Go.RowKit Go.Lib TyM TyP ShM ShP RcP RcO RdM Go.ChangeShapes Go.WideShapes Go.ChangeAt

theorem cellsStr:Tryz.prog.cellsOf 9=1:=by kernel_rfl
theorem cellsArrO:Tryz.prog.cellsOf 302=23:=by kernel_rfl
theorem gO:Tryz.prog.globalNamed "fescue/read.ops" = some 3:=by kernel_rfl
theorem gtO:(Tryz.prog.globals[3]?).map (·.type)=some 302:=by kernel_rfl
theorem laidO:(Rows.laid_fescue_read_ops:DataW Unit)=.agg (wordsL.map fun s=>.lit (.string s)):=rfl
theorem tabO {W:World} (h:laidMet Tryz.prog [("fescue/read.ops",Rows.laid_fescue_read_ops)] W):TabO W:=by
 obtain ⟨ps,⟨g',t',cs,fuel,pp,q',hg',ht',hvar,hd,_,_⟩,_⟩:=h
 obtain rfl:=Option.some.inj (gO.symm.trans hg')
 obtain rfl:=Option.some.inj (gtO.symm.trans ht')
 rw [laidO] at hd
 obtain ⟨xs,m,hm,hx,hcl,hxl,hff⟩:=DataW.trod_array Tryz.underlying302 hd
 simp only [Prod.mk.injEq,DataW.agg.injEq] at hx
 have hmap:=hx.1
 intro i v hv
 have hi' : i < 23:=by
  rcases Nat.lt_or_ge i 23 with h | h
  ·exact h
  ·rw [List.getElem?_eq_none (by unfold opsV;rw [List.length_map];exact h)] at hv
   cases hv
 have hi:i < wordsL.length:=hi'
 have hix:i < xs.length:=by rw [hxl];exact hi'
 have h1:=hff i hi'
 rw [List.getElem?_eq_getElem hix,cellsStr] at h1
 rw [cellsArrO] at hcl
 have hlt:i < cs.toList.length:=by rw [hcl];exact hi'
 have hone:(cs.toList.drop (i * 1)).take 1=[cs.toList[i]]:=by
  rw [Nat.mul_one,List.drop_eq_getElem_cons hlt]
  rfl
 rw [hone] at h1
 obtain ⟨s,e1,e2,_⟩:=DataW.trod_string Tryz.underlying9 h1
 have h2:(wordsL.map fun s=>(DataW.lit (.string s):DataW Unit))[i]?=(xs.map (·.1))[i]?:=by rw [hmap]
 rw [List.getElem?_map,List.getElem?_map,List.getElem?_eq_getElem hi,List.getElem?_eq_getElem hix] at h2
 simp only [Option.map_some,Option.some.injEq] at h2
 rw [opsV_at hi'] at hv
 cases hv
 have hcell:W.cell? ⟨3,i,none⟩=cs.toList[i]?:=by
  rw [World.var?_cell hg' hvar]
  simp
 show W.cell? ⟨_,0+i,none⟩=_
 rw [Nat.zero_add,hcell,List.getElem?_eq_getElem hlt]
 have e3:cs.toList[i]=.string s:=List.cons.inj e1 |>.1
 rw [e3]
 have e4:=h2.trans (congrArg Prod.fst e2)
 simp only [DataW.lit.injEq,Lit.string.injEq] at e4
 unfold wdN
 rw [List.getD_eq_getElem?_getD,List.getElem?_eq_getElem hi]
 rw [Option.getD_some,e4]
end Go.Proofs.YtpejpnffcepdlaaGreatDoor.RdTab
