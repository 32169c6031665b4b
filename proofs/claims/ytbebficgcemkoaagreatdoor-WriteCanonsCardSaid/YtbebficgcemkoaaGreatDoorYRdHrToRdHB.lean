/- The last region of fescueref07.has, by what its guards decide. Walk over fescueref07.has: behind its registers. Walk over fescueref07.has: behind its registers. -/
import Derived.Test.YtbebficgcemkoaaGreatDoorYRgZToRgY
import Derived.Test.YtbebficgcemkoaaGreatDoorYRcTToRdHs
set_option maxRecDepth 100000
set_option maxHeartbeats 16000000
namespace Go.Proofs.YtbebficgcemkoaaGreatDoor.RdHr
open Go.RowKit Go.Lib TyM TyP ShM ShP ShB IntO SetP LxM LxJ LxY RwO RdM RdA RdO RdB RdP RdQ RdN Fresh Aft RgZ RdHs

def ops:Array Oper:=#[{ dst:=some 80,op:=Go.Op.load 57 (Go.Operand.tmp 2),type:=57,pos := "ref.go:137",after:=#[],guard:=none },
 { dst:=some 81,op:=Go.Op.move (Go.Operand.tmp 8),type:=4,pos := "ref.go:137",after:=#[],guard:=none },
 { dst:=some 82,op:=Go.Op.move (Go.Operand.tmp 81),type:=4,pos := "ref.go:137",after:=#[{ on:=1,ground:=Go.Ground.data }],guard:=none },
 { dst:=some 83,op:=Go.Op.move (Go.Operand.tmp 10),type:=4,pos := "ref.go:137",after:=#[{ on:=2,ground:=Go.Ground.guard }],guard:=some (2,true) },
 { dst:=some 84,op:=Go.Op.pick (Go.Operand.tmp 82) (Go.Operand.tmp 83) (Go.Operand.const (Go.Value.bool false)),type:=4,pos := "ref.go:137",after:=#[{ on:=2,ground:=Go.Ground.data },{ on:=3,ground:=Go.Ground.data }],guard:=none },
 { dst:=some 85,op:=Go.Op.move (Go.Operand.tmp 84),type:=4,pos := "ref.go:137",after:=#[{ on:=4,ground:=Go.Ground.data },{ on:=2,ground:=Go.Ground.chain }],guard:=none },
 { dst:=some 86,op:=Go.Op.move (Go.Operand.tmp 1),type:=74,pos := "ref.go:137",after:=#[{ on:=5,ground:=Go.Ground.guard }],guard:=some (5,true) },
 { dst:=some 87,op:=Go.Op.call { callee:=Go.Callee.builtin Go.Builtin.len,args:=#[Go.Operand.tmp 86],argTypes:=#[74] },type:=3,pos := "ref.go:137",after:=#[{ on:=6,ground:=Go.Ground.data },{ on:=5,ground:=Go.Ground.guard }],guard:=some (5,true) },
 { dst:=some 88,op:=Go.Op.binOp Go.BinOp.eql 3 (Go.Operand.tmp 87) (Go.Operand.const (Go.Value.int Go.IntKind.i64 0)) 3,type:=4,pos := "ref.go:137",after:=#[{ on:=7,ground:=Go.Ground.data },{ on:=5,ground:=Go.Ground.guard }],guard:=some (5,true) },
 { dst:=some 89,op:=Go.Op.move (Go.Operand.tmp 88),type:=4,pos := "ref.go:137",after:=#[{ on:=8,ground:=Go.Ground.data },{ on:=5,ground:=Go.Ground.chain },{ on:=5,ground:=Go.Ground.guard }],guard:=some (5,true) },
 { dst:=some 90,op:=Go.Op.fieldAddr 57 (Go.Operand.tmp 2) 0,type:=0,pos := "ref.go:137",after:=#[{ on:=9,ground:=Go.Ground.guard }],guard:=some (9,false) },
 { dst:=some 91,op:=Go.Op.load 5 (Go.Operand.tmp 90),type:=5,pos := "ref.go:137",after:=#[{ on:=10,ground:=Go.Ground.data },{ on:=9,ground:=Go.Ground.guard }],guard:=some (9,false) },
 { dst:=some 92,op:=Go.Op.call { callee:=Go.Callee.value (Go.Operand.func 146),args:=#[Go.Operand.tmp 91],argTypes:=#[5] },type:=4,pos := "ref.go:137",after:=#[{ on:=11,ground:=Go.Ground.data },{ on:=9,ground:=Go.Ground.chain },{ on:=9,ground:=Go.Ground.guard }],guard:=some (9,false) },
 { dst:=some 93,op:=Go.Op.pick (Go.Operand.tmp 89) (Go.Operand.const (Go.Value.bool true)) (Go.Operand.tmp 92),type:=4,pos := "ref.go:137",after:=#[{ on:=9,ground:=Go.Ground.data },{ on:=12,ground:=Go.Ground.data },{ on:=5,ground:=Go.Ground.guard },{ on:=15,ground:=Go.Ground.gcOnly Go.Departure.lateStores }],guard:=some (5,true) },
 { dst:=some 94,op:=Go.Op.pick (Go.Operand.tmp 85) (Go.Operand.tmp 93) (Go.Operand.const (Go.Value.bool false)),type:=4,pos := "ref.go:137",after:=#[{ on:=5,ground:=Go.Ground.data },{ on:=13,ground:=Go.Ground.data },{ on:=15,ground:=Go.Ground.gcOnly Go.Departure.lateStores }],guard:=none },
 { dst:=none,op:=Go.Op.store 57 (Go.Operand.tmp 4) (Go.Operand.tmp 80),type:=0,pos := "ref.go:137",after:=#[{ on:=0,ground:=Go.Ground.data },{ on:=12,ground:=Go.Ground.chain },{ on:=0,ground:=Go.Ground.phase },{ on:=1,ground:=Go.Ground.textOnly Go.Departure.lateStores },{ on:=2,ground:=Go.Ground.textOnly Go.Departure.lateStores },{ on:=3,ground:=Go.Ground.textOnly Go.Departure.lateStores },{ on:=4,ground:=Go.Ground.textOnly Go.Departure.lateStores },{ on:=5,ground:=Go.Ground.textOnly Go.Departure.lateStores },{ on:=6,ground:=Go.Ground.textOnly Go.Departure.lateStores },{ on:=7,ground:=Go.Ground.textOnly Go.Departure.lateStoresUnsure },{ on:=8,ground:=Go.Ground.textOnly Go.Departure.lateStores },{ on:=9,ground:=Go.Ground.textOnly Go.Departure.lateStores },{ on:=10,ground:=Go.Ground.textOnly Go.Departure.lateStores },{ on:=11,ground:=Go.Ground.textOnly Go.Departure.lateStores },{ on:=12,ground:=Go.Ground.textOnly Go.Departure.lateStoresUnsure },{ on:=13,ground:=Go.Ground.textOnly Go.Departure.lateStores },{ on:=14,ground:=Go.Ground.textOnly Go.Departure.lateStores }],guard:=none },
 { dst:=some 5,op:=Go.Op.assign (Go.Operand.tmp 94),type:=4,pos := "ref.go:137",after:=#[{ on:=14,ground:=Go.Ground.data },{ on:=15,ground:=Go.Ground.chain },{ on:=0,ground:=Go.Ground.phase },{ on:=1,ground:=Go.Ground.phase },{ on:=2,ground:=Go.Ground.phase },{ on:=3,ground:=Go.Ground.phase },{ on:=4,ground:=Go.Ground.phase },{ on:=5,ground:=Go.Ground.phase },{ on:=6,ground:=Go.Ground.phase },{ on:=7,ground:=Go.Ground.phase },{ on:=8,ground:=Go.Ground.phase },{ on:=9,ground:=Go.Ground.phase },{ on:=10,ground:=Go.Ground.phase },{ on:=11,ground:=Go.Ground.phase },{ on:=12,ground:=Go.Ground.phase },{ on:=13,ground:=Go.Ground.phase },{ on:=14,ground:=Go.Ground.phase },{ on:=15,ground:=Go.Ground.phase }],guard:=none }]
theorem q71x1 {P:Prop} (h:P:=by
 try simp only [Act.put,List.setIfInBounds_toArray,List.set_cons_zero,List.set_cons_succ]
 refine wpAnyZ_ready (rs:=[14,15]) (by kernel_rfl) (by simp) ?_
 refine AllReadyZ.cons (o:=⟨_,_,_,_,_,_⟩) rfl (fun K hK=>?_) ?_
 ·go_simp
  refine hK.out _ _ ?_ (fun hHeld=>?_)
  ·(try dsimp only)
   (exact HHW.out)
  clear hK K
  refine zL 15 rfl (fun K hK=>?_)
  have y0:=(ShTB.cells_heap (w:=W7.drew) HB7.out.res).2 0
  have v0:=(ShTB.cells_heap HB7.out.res).2 0
  have f0:=cells_of (W:=W7.drew) HB7.out.res 0 _ rfl
  have e0:=cells_of HB7.out.res 0 _ rfl
  have y1:=(ShTB.cells_heap (w:=W7.drew) HB7.out.res).2 1
  have v1:=(ShTB.cells_heap HB7.out.res).2 1
  have f1:=cells_of (W:=W7.drew) HB7.out.res 1 _ rfl
  have e1:=cells_of HB7.out.res 1 _ rfl
  have y2:=(ShTB.cells_heap (w:=W7.drew) HB7.out.res).2 2
  have v2:=(ShTB.cells_heap HB7.out.res).2 2
  have f2:=cells_of (W:=W7.drew) HB7.out.res 2 _ rfl
  have e2:=cells_of HB7.out.res 2 _ rfl
  have y3:=(ShTB.cells_heap (w:=W7.drew) HB7.out.res).2 3
  have v3:=(ShTB.cells_heap HB7.out.res).2 3
  have f3:=cells_of (W:=W7.drew) HB7.out.res 3 _ rfl
  have e3:=cells_of HB7.out.res 3 _ rfl
  have y4:=(ShTB.cells_heap (w:=W7.drew) HB7.out.res).2 4
  have v4:=(ShTB.cells_heap HB7.out.res).2 4
  have f4:=cells_of (W:=W7.drew) HB7.out.res 4 _ rfl
  have e4:=cells_of HB7.out.res 4 _ rfl
  have y5:=(ShTB.cells_heap (w:=W7.drew) HB7.out.res).2 5
  have v5:=(ShTB.cells_heap HB7.out.res).2 5
  have f5:=cells_of (W:=W7.drew) HB7.out.res 5 _ rfl
  have e5:=cells_of HB7.out.res 5 _ rfl
  have y6:=(ShTB.cells_heap (w:=W7.drew) HB7.out.res).2 6
  have v6:=(ShTB.cells_heap HB7.out.res).2 6
  have f6:=cells_of (W:=W7.drew) HB7.out.res 6 _ rfl
  have e6:=cells_of HB7.out.res 6 _ rfl
  go_simp
  refine hK.out _ _ ?_
  clear hK K
  refine zL 16 rfl (fun K hK=>?_)
  go_simp
  refine hK.out _ _ ?_
  clear hK K
  try simp only [Act.put,List.setIfInBounds_toArray,List.set_cons_zero,List.set_cons_succ]
  refine wpAnyZ_done (by kernel_rfl) ?_ _
  refine NoPanic.normal ?_
  obtain ⟨W3,hW3,hk3,hb3,hoa,hof⟩:=res_factsD HB7.out
  rw [← hW3]
  exact HQ.out W3 hk3 (hid hb3) (hid hoa) (hid hof)
 refine AllReadyZ.last (o:=⟨_,_,_,_,_,_⟩) rfl (by kernel_rfl) (fun K hK=>?_) ?_
 ·skip
  have y0:=(ShTB.cells_heap (w:=W7.drew) HB7.out.res).2 0
  have v0:=(ShTB.cells_heap HB7.out.res).2 0
  have f0:=cells_of (W:=W7.drew) HB7.out.res 0 _ rfl
  have e0:=cells_of HB7.out.res 0 _ rfl
  have y1:=(ShTB.cells_heap (w:=W7.drew) HB7.out.res).2 1
  have v1:=(ShTB.cells_heap HB7.out.res).2 1
  have f1:=cells_of (W:=W7.drew) HB7.out.res 1 _ rfl
  have e1:=cells_of HB7.out.res 1 _ rfl
  have y2:=(ShTB.cells_heap (w:=W7.drew) HB7.out.res).2 2
  have v2:=(ShTB.cells_heap HB7.out.res).2 2
  have f2:=cells_of (W:=W7.drew) HB7.out.res 2 _ rfl
  have e2:=cells_of HB7.out.res 2 _ rfl
  have y3:=(ShTB.cells_heap (w:=W7.drew) HB7.out.res).2 3
  have v3:=(ShTB.cells_heap HB7.out.res).2 3
  have f3:=cells_of (W:=W7.drew) HB7.out.res 3 _ rfl
  have e3:=cells_of HB7.out.res 3 _ rfl
  have y4:=(ShTB.cells_heap (w:=W7.drew) HB7.out.res).2 4
  have v4:=(ShTB.cells_heap HB7.out.res).2 4
  have f4:=cells_of (W:=W7.drew) HB7.out.res 4 _ rfl
  have e4:=cells_of HB7.out.res 4 _ rfl
  have y5:=(ShTB.cells_heap (w:=W7.drew) HB7.out.res).2 5
  have v5:=(ShTB.cells_heap HB7.out.res).2 5
  have f5:=cells_of (W:=W7.drew) HB7.out.res 5 _ rfl
  have e5:=cells_of HB7.out.res 5 _ rfl
  have y6:=(ShTB.cells_heap (w:=W7.drew) HB7.out.res).2 6
  have v6:=(ShTB.cells_heap HB7.out.res).2 6
  have f6:=cells_of (W:=W7.drew) HB7.out.res 6 _ rfl
  have e6:=cells_of HB7.out.res 6 _ rfl
  go_simp
  refine hK.out _ _ ?_
  clear hK K
  refine zL 14 rfl (fun K hK=>?_)
  go_simp
  refine hK.out _ _ ?_
  clear hK K
  refine zL 16 rfl (fun K hK=>?_)
  go_simp
  refine hK.out _ _ ?_
  clear hK K
  try simp only [Act.put,List.setIfInBounds_toArray,List.set_cons_zero,List.set_cons_succ]
  refine wpAnyZ_done (by kernel_rfl) ?_ _
  refine NoPanic.normal ?_
  obtain ⟨W3,hW3,hk3,hb3,hoa,hof⟩:=res_factsD HB7.out
  rw [← hW3]
  exact HQ.out W3 hk3 (hid hb3) (hid hoa) (hid hof)
 exact AllReadyZ.nil):P:=h
theorem rA {t0 t3 t5 t6 t7 t9 t11 t12 t13 t14 t15 t16 t17 t18 t19 t20 t21 t22 t23 t24 t25 t26 t27 t28 t29 t30 t31 t32 t33 t34 t35 t36 t37 t38 t39 t40 t41 t42 t43 t44 t45 t46 t47 t48 t49 t50 t51 t52 t53 t54 t55 t56 t57 t58 t59 t60 t61 t62 t63 t64 t65 t66 t67 t68 t69 t70 t71 t72 t73 t74 t75 t76 t77 t78 t79:Value} {la ua:Option Addr} {ln lc n5 uc:Nat} {w W7:World} {X:Ix} {xs:List Int} {Q:Exit→Act→World→Prop} (HB7:Hid (BoxP w X (.slice ua n5 uc) (.slice none 0 0) xs [] W7)) 
  (hQ:∀ W3:World,W3.heap[w.heap.size+1]?=some (.cells #[.int .u8 X.op,.int .i64 X.typ,.int .i64 X.a,.int .i64 X.b,.int .i64 X.n,.slice ua n5 uc,.slice none 0 0] 57 (0,0))→Hid (Below w.heap.size w W3)→Hid (W3.ownsRow w.heap.size 3 1 (.slice ua n5 uc) xs.length (intVals xs))→Hid (W3.ownsRow w.heap.size 3 1 (.slice none 0 0) 0 (intVals []))→Q .normal ⟨#[t0,.slice la ln lc,.pointer (some ⟨w.heap.size,0,none⟩),t3,.pointer (some ⟨w.heap.size+1,0,none⟩),.bool false,t6,t7,.bool true,t9,.bool false,t11,t12,t13,t14,t15,t16,t17,t18,t19,t20,t21,t22,t23,t24,t25,t26,t27,t28,t29,t30,t31,t32,t33,t34,t35,t36,t37,t38,t39,t40,t41,t42,t43,t44,t45,t46,t47,t48,t49,t50,t51,t52,t53,t54,t55,t56,t57,t58,t59,t60,t61,t62,t63,t64,t65,t66,t67,t68,t69,t70,t71,t72,t73,t74,t75,t76,t77,t78,t79,.agg #[.int .u8 X.op,.int .i64 X.typ,.int .i64 X.a,.int .i64 X.b,.int .i64 X.n,.slice ua n5 uc,.slice none 0 0],.bool true,.bool true,.bool false,.bool false,.bool false,undef,undef,undef,undef,undef,undef,undef,undef,.bool false],[]⟩ W3) :
  Code.wp Tryz.prog (.region 21 ops true) Q ⟨#[t0,.slice la ln lc,.pointer (some ⟨w.heap.size,0,none⟩),t3,.pointer (some ⟨w.heap.size+1,0,none⟩),t5,t6,t7,.bool true,t9,.bool false,t11,t12,t13,t14,t15,t16,t17,t18,t19,t20,t21,t22,t23,t24,t25,t26,t27,t28,t29,t30,t31,t32,t33,t34,t35,t36,t37,t38,t39,t40,t41,t42,t43,t44,t45,t46,t47,t48,t49,t50,t51,t52,t53,t54,t55,t56,t57,t58,t59,t60,t61,t62,t63,t64,t65,t66,t67,t68,t69,t70,t71,t72,t73,t74,t75,t76,t77,t78,t79,undef,undef,undef,undef,undef,undef,undef,undef,undef,undef,undef,undef,undef,undef,undef],[]⟩ W7:=by
 have HQ:=hid hQ
 have hbo:=HB7.out.box
 have d0:=later (cells_of hbo 0 _ rfl);have d1:=later (cells_of hbo 1 _ rfl);have d2:=later (cells_of hbo 2 _ rfl);have d3:=later (cells_of hbo 3 _ rfl);have d4:=later (cells_of hbo 4 _ rfl);have d5:=later (cells_of hbo 5 _ rfl);have d6:=later (cells_of hbo 6 _ rfl)
 have HHW:=hid (Aft.refl W7).drew
 clear hbo hQ
 refine wp_region_noPanic ?_
 refine wp_region_Z (S:=(fun w'=>Aft W7 w')) (Z:=[15]) (by kernel_rfl) ?_ (fun hHeld=>?_)
 ·(try dsimp only)
  (exact HHW.out)
 refine zT 0 rfl ?_
 refine zP 1 rfl ?_
 refine zP 2 rfl ?_
 refine zP 3 rfl ?_
 refine zC 4 rfl (fun K hK=>?_)
 go_simp
 refine hK.out _ _ ?_ (fun hHeld=>?_)
 ·(try dsimp only)
  (exact HHW.out)
 clear hK K
 refine zP 5 rfl ?_
 refine zU 6 rfl ?_
 refine zU 7 rfl ?_
 refine zU 8 rfl ?_
 refine zU 9 rfl ?_
 refine zU 10 rfl ?_
 refine zU 11 rfl ?_
 refine zU 12 rfl ?_
 refine zU 13 rfl ?_
 exact q71x1
theorem q71x2 {P:Prop} (h:P:=by
 go_simp
 refine hK.out _ _ ?_
 clear hK K
 refine zL 16 rfl (fun K hK=>?_)
 go_simp
 refine hK.out _ _ ?_
 clear hK K
 try simp only [Act.put,List.setIfInBounds_toArray,List.set_cons_zero,List.set_cons_succ]
 refine wpAnyZ_done (by kernel_rfl) ?_ _
 refine NoPanic.normal ?_
 obtain ⟨W3,hW3,hk3,hb3,hoa,hof⟩:=res_factsD HB7.out
 rw [← hW3]
 exact HQ.out W3 hk3 (hid hb3) (hid hoa) (hid hof)):P:=h
theorem rB {t0 t3 t5 t6 t7 t9 t11 t12 t13 t14 t15 t16 t17 t18 t19 t20 t21 t22 t23 t24 t25 t26 t27 t28 t29 t30 t31 t32 t33 t34 t35 t36 t37 t38 t39 t40 t41 t42 t43 t44 t45 t46 t47 t48 t49 t50 t51 t52 t53 t54 t55 t56 t57 t58 t59 t60 t61 t62 t63 t64 t65 t66 t67 t68 t69 t70 t71 t72 t73 t74 t75 t76 t77 t78 t79:Value} {la ua:Option Addr} {ln lc n5 uc:Nat} {w W7:World} {X:Ix} {xs:List Int} {Q:Exit→Act→World→Prop} (HB7:Hid (BoxP w X (.slice ua n5 uc) (.slice none 0 0) xs [] W7)) (hz1:((ln:Int) == 0)=true) 
  (hQ:∀ W3:World,W3.heap[w.heap.size+1]?=some (.cells #[.int .u8 X.op,.int .i64 X.typ,.int .i64 X.a,.int .i64 X.b,.int .i64 X.n,.slice ua n5 uc,.slice none 0 0] 57 (0,0))→Hid (Below w.heap.size w W3)→Hid (W3.ownsRow w.heap.size 3 1 (.slice ua n5 uc) xs.length (intVals xs))→Hid (W3.ownsRow w.heap.size 3 1 (.slice none 0 0) 0 (intVals []))→Q .normal ⟨#[t0,.slice la ln lc,.pointer (some ⟨w.heap.size,0,none⟩),t3,.pointer (some ⟨w.heap.size+1,0,none⟩),.bool true,t6,t7,.bool true,t9,.bool true,t11,t12,t13,t14,t15,t16,t17,t18,t19,t20,t21,t22,t23,t24,t25,t26,t27,t28,t29,t30,t31,t32,t33,t34,t35,t36,t37,t38,t39,t40,t41,t42,t43,t44,t45,t46,t47,t48,t49,t50,t51,t52,t53,t54,t55,t56,t57,t58,t59,t60,t61,t62,t63,t64,t65,t66,t67,t68,t69,t70,t71,t72,t73,t74,t75,t76,t77,t78,t79,.agg #[.int .u8 X.op,.int .i64 X.typ,.int .i64 X.a,.int .i64 X.b,.int .i64 X.n,.slice ua n5 uc,.slice none 0 0],.bool true,.bool true,.bool true,.bool true,.bool true,.slice la ln lc,.int .i64 (ln:Int),.bool true,.bool true,undef,undef,undef,.bool true,.bool true],[]⟩ W3) :
  Code.wp Tryz.prog (.region 21 ops true) Q ⟨#[t0,.slice la ln lc,.pointer (some ⟨w.heap.size,0,none⟩),t3,.pointer (some ⟨w.heap.size+1,0,none⟩),t5,t6,t7,.bool true,t9,.bool true,t11,t12,t13,t14,t15,t16,t17,t18,t19,t20,t21,t22,t23,t24,t25,t26,t27,t28,t29,t30,t31,t32,t33,t34,t35,t36,t37,t38,t39,t40,t41,t42,t43,t44,t45,t46,t47,t48,t49,t50,t51,t52,t53,t54,t55,t56,t57,t58,t59,t60,t61,t62,t63,t64,t65,t66,t67,t68,t69,t70,t71,t72,t73,t74,t75,t76,t77,t78,t79,undef,undef,undef,undef,undef,undef,undef,undef,undef,undef,undef,undef,undef,undef,undef],[]⟩ W7:=by
 have HQ:=hid hQ
 have hbo:=HB7.out.box
 have d0:=later (cells_of hbo 0 _ rfl);have d1:=later (cells_of hbo 1 _ rfl);have d2:=later (cells_of hbo 2 _ rfl);have d3:=later (cells_of hbo 3 _ rfl);have d4:=later (cells_of hbo 4 _ rfl);have d5:=later (cells_of hbo 5 _ rfl);have d6:=later (cells_of hbo 6 _ rfl)
 have HHW:=hid (Aft.refl W7).drew
 clear hbo hQ
 refine wp_region_noPanic ?_
 refine wp_region_Z (S:=(fun w'=>Aft W7 w')) (Z:=[15]) (by kernel_rfl) ?_ (fun hHeld=>?_)
 ·(try dsimp only)
  (exact HHW.out)
 refine zT 0 rfl ?_
 refine zP 1 rfl ?_
 refine zP 2 rfl ?_
 refine zP 3 rfl ?_
 refine zC 4 rfl (fun K hK=>?_)
 go_simp
 refine hK.out _ _ ?_ (fun hHeld=>?_)
 ·(try dsimp only)
  (exact HHW.out)
 clear hK K
 refine zP 5 rfl ?_
 refine zP 6 rfl ?_
 refine zC 7 rfl (fun K hK=>?_)
 go_simp
 refine hK.out _ _ ?_ (fun hHeld=>?_)
 ·(try dsimp only)
  (exact HHW.out)
 clear hK K
 refine zP 8 rfl ?_
 refine zP 9 rfl ?_
 refine zU 10 rfl ?_
 refine zU 11 rfl ?_
 refine zU 12 rfl ?_
 try simp only [Act.put,List.setIfInBounds_toArray,List.set_cons_zero,List.set_cons_succ]
 refine wpAnyZ_ready (rs:=[13,15]) (by kernel_rfl) (by simp) ?_
 refine AllReadyZ.cons (o:=⟨_,_,_,_,_,_⟩) rfl (fun K hK=>?_) ?_
 ·go_simp
  refine hK.out _ _ ?_ (fun hHeld=>?_)
  ·(try dsimp only)
   (exact HHW.out)
  clear hK K
  exact q71x1
 refine AllReadyZ.last (o:=⟨_,_,_,_,_,_⟩) rfl (by kernel_rfl) (fun K hK=>?_) ?_
 ·skip
  have y0:=(ShTB.cells_heap (w:=W7.drew) HB7.out.res).2 0
  have v0:=(ShTB.cells_heap HB7.out.res).2 0
  have f0:=cells_of (W:=W7.drew) HB7.out.res 0 _ rfl
  have e0:=cells_of HB7.out.res 0 _ rfl
  have y1:=(ShTB.cells_heap (w:=W7.drew) HB7.out.res).2 1
  have v1:=(ShTB.cells_heap HB7.out.res).2 1
  have f1:=cells_of (W:=W7.drew) HB7.out.res 1 _ rfl
  have e1:=cells_of HB7.out.res 1 _ rfl
  have y2:=(ShTB.cells_heap (w:=W7.drew) HB7.out.res).2 2
  have v2:=(ShTB.cells_heap HB7.out.res).2 2
  have f2:=cells_of (W:=W7.drew) HB7.out.res 2 _ rfl
  have e2:=cells_of HB7.out.res 2 _ rfl
  have y3:=(ShTB.cells_heap (w:=W7.drew) HB7.out.res).2 3
  have v3:=(ShTB.cells_heap HB7.out.res).2 3
  have f3:=cells_of (W:=W7.drew) HB7.out.res 3 _ rfl
  have e3:=cells_of HB7.out.res 3 _ rfl
  have y4:=(ShTB.cells_heap (w:=W7.drew) HB7.out.res).2 4
  have v4:=(ShTB.cells_heap HB7.out.res).2 4
  have f4:=cells_of (W:=W7.drew) HB7.out.res 4 _ rfl
  have e4:=cells_of HB7.out.res 4 _ rfl
  have y5:=(ShTB.cells_heap (w:=W7.drew) HB7.out.res).2 5
  have v5:=(ShTB.cells_heap HB7.out.res).2 5
  have f5:=cells_of (W:=W7.drew) HB7.out.res 5 _ rfl
  have e5:=cells_of HB7.out.res 5 _ rfl
  have y6:=(ShTB.cells_heap (w:=W7.drew) HB7.out.res).2 6
  have v6:=(ShTB.cells_heap HB7.out.res).2 6
  have f6:=cells_of (W:=W7.drew) HB7.out.res 6 _ rfl
  have e6:=cells_of HB7.out.res 6 _ rfl
  go_simp
  refine hK.out _ _ ?_
  clear hK K
  refine zL 13 rfl (fun K hK=>?_)
  go_simp
  refine hK.out _ _ ?_
  clear hK K
  refine zL 14 rfl (fun K hK=>?_)
  exact q71x2
 exact AllReadyZ.nil
theorem rC {t0 t3 t5 t6 t7 t9 t11 t12 t13 t14 t15 t16 t17 t18 t19 t20 t21 t22 t23 t24 t25 t26 t27 t28 t29 t30 t31 t32 t33 t34 t35 t36 t37 t38 t39 t40 t41 t42 t43 t44 t45 t46 t47 t48 t49 t50 t51 t52 t53 t54 t55 t56 t57 t58 t59 t60 t61 t62 t63 t64 t65 t66 t67 t68 t69 t70 t71 t72 t73 t74 t75 t76 t77 t78 t79:Value} {la ua:Option Addr} {ln lc n5 uc:Nat} {b4:Bool} {w W7:World} {X:Ix} {xs:List Int} {Q:Exit→Act→World→Prop} (HB7:Hid (BoxP w X (.slice ua n5 uc) (.slice none 0 0) xs [] W7)) (hz1:((ln:Int) == 0)=false) (HHR:Hid (∀ wx:World,Calls Tryz.prog 146 #[.int .u8 X.op] wx (PureR b4 wx))) 
  (hQ:∀ W3:World,W3.heap[w.heap.size+1]?=some (.cells #[.int .u8 X.op,.int .i64 X.typ,.int .i64 X.a,.int .i64 X.b,.int .i64 X.n,.slice ua n5 uc,.slice none 0 0] 57 (0,0))→Hid (Below w.heap.size w W3)→Hid (W3.ownsRow w.heap.size 3 1 (.slice ua n5 uc) xs.length (intVals xs))→Hid (W3.ownsRow w.heap.size 3 1 (.slice none 0 0) 0 (intVals []))→Q .normal ⟨#[t0,.slice la ln lc,.pointer (some ⟨w.heap.size,0,none⟩),t3,.pointer (some ⟨w.heap.size+1,0,none⟩),.bool b4,t6,t7,.bool true,t9,.bool true,t11,t12,t13,t14,t15,t16,t17,t18,t19,t20,t21,t22,t23,t24,t25,t26,t27,t28,t29,t30,t31,t32,t33,t34,t35,t36,t37,t38,t39,t40,t41,t42,t43,t44,t45,t46,t47,t48,t49,t50,t51,t52,t53,t54,t55,t56,t57,t58,t59,t60,t61,t62,t63,t64,t65,t66,t67,t68,t69,t70,t71,t72,t73,t74,t75,t76,t77,t78,t79,.agg #[.int .u8 X.op,.int .i64 X.typ,.int .i64 X.a,.int .i64 X.b,.int .i64 X.n,.slice ua n5 uc,.slice none 0 0],.bool true,.bool true,.bool true,.bool true,.bool true,.slice la ln lc,.int .i64 (ln:Int),.bool false,.bool false,.pointer (some ⟨w.heap.size,0,none⟩),.int .u8 X.op,.bool b4,.bool b4,.bool b4],[]⟩ W3) :
  Code.wp Tryz.prog (.region 21 ops true) Q ⟨#[t0,.slice la ln lc,.pointer (some ⟨w.heap.size,0,none⟩),t3,.pointer (some ⟨w.heap.size+1,0,none⟩),t5,t6,t7,.bool true,t9,.bool true,t11,t12,t13,t14,t15,t16,t17,t18,t19,t20,t21,t22,t23,t24,t25,t26,t27,t28,t29,t30,t31,t32,t33,t34,t35,t36,t37,t38,t39,t40,t41,t42,t43,t44,t45,t46,t47,t48,t49,t50,t51,t52,t53,t54,t55,t56,t57,t58,t59,t60,t61,t62,t63,t64,t65,t66,t67,t68,t69,t70,t71,t72,t73,t74,t75,t76,t77,t78,t79,undef,undef,undef,undef,undef,undef,undef,undef,undef,undef,undef,undef,undef,undef,undef],[]⟩ W7:=by
 have HQ:=hid hQ
 have hbo:=HB7.out.box
 have d0:=later (cells_of hbo 0 _ rfl);have d1:=later (cells_of hbo 1 _ rfl);have d2:=later (cells_of hbo 2 _ rfl);have d3:=later (cells_of hbo 3 _ rfl);have d4:=later (cells_of hbo 4 _ rfl);have d5:=later (cells_of hbo 5 _ rfl);have d6:=later (cells_of hbo 6 _ rfl)
 have HHW:=hid (Aft.refl W7).drew
 clear hbo hQ
 refine wp_region_noPanic ?_
 refine wp_region_Z (S:=(fun w'=>Aft W7 w')) (Z:=[15]) (by kernel_rfl) ?_ (fun hHeld=>?_)
 ·(try dsimp only)
  (exact HHW.out)
 refine zT 0 rfl ?_
 refine zP 1 rfl ?_
 refine zP 2 rfl ?_
 refine zP 3 rfl ?_
 refine zC 4 rfl (fun K hK=>?_)
 go_simp
 refine hK.out _ _ ?_ (fun hHeld=>?_)
 ·(try dsimp only)
  (exact HHW.out)
 clear hK K
 refine zP 5 rfl ?_
 refine zP 6 rfl ?_
 refine zC 7 rfl (fun K hK=>?_)
 go_simp
 refine hK.out _ _ ?_ (fun hHeld=>?_)
 ·(try dsimp only)
  (exact HHW.out)
 clear hK K
 refine zP 8 rfl ?_
 refine zP 9 rfl ?_
 refine zP 10 rfl ?_
 refine zC 11 rfl (fun K hK=>?_)
 go_simp
 refine hK.out _ _ ?_ (fun hHeld=>?_)
 ·(try dsimp only)
  (exact HHW.out)
 clear hK K
 refine zC 12 rfl (fun K hK=>?_)
 go_simp
 refine (HHR.out _).mono ?_
 rintro e w9 ⟨rfl,rfl⟩
 refine hK.out _ _ ?_ (fun hHeld=>?_)
 ·(try dsimp only)
  (exact HHW.out)
 clear hK K
 try simp only [Act.put,List.setIfInBounds_toArray,List.set_cons_zero,List.set_cons_succ]
 refine wpAnyZ_ready (rs:=[13,15]) (by kernel_rfl) (by simp) ?_
 refine AllReadyZ.cons (o:=⟨_,_,_,_,_,_⟩) rfl (fun K hK=>?_) ?_
 ·go_simp
  refine hK.out _ _ ?_ (fun hHeld=>?_)
  ·(try dsimp only)
   (exact HHW.out)
  clear hK K
  exact q71x1
 refine AllReadyZ.last (o:=⟨_,_,_,_,_,_⟩) rfl (by kernel_rfl) (fun K hK=>?_) ?_
 ·skip
  have y0:=(ShTB.cells_heap (w:=W7.drew) HB7.out.res).2 0
  have v0:=(ShTB.cells_heap HB7.out.res).2 0
  have f0:=cells_of (W:=W7.drew) HB7.out.res 0 _ rfl
  have e0:=cells_of HB7.out.res 0 _ rfl
  have y1:=(ShTB.cells_heap (w:=W7.drew) HB7.out.res).2 1
  have v1:=(ShTB.cells_heap HB7.out.res).2 1
  have f1:=cells_of (W:=W7.drew) HB7.out.res 1 _ rfl
  have e1:=cells_of HB7.out.res 1 _ rfl
  have y2:=(ShTB.cells_heap (w:=W7.drew) HB7.out.res).2 2
  have v2:=(ShTB.cells_heap HB7.out.res).2 2
  have f2:=cells_of (W:=W7.drew) HB7.out.res 2 _ rfl
  have e2:=cells_of HB7.out.res 2 _ rfl
  have y3:=(ShTB.cells_heap (w:=W7.drew) HB7.out.res).2 3
  have v3:=(ShTB.cells_heap HB7.out.res).2 3
  have f3:=cells_of (W:=W7.drew) HB7.out.res 3 _ rfl
  have e3:=cells_of HB7.out.res 3 _ rfl
  have y4:=(ShTB.cells_heap (w:=W7.drew) HB7.out.res).2 4
  have v4:=(ShTB.cells_heap HB7.out.res).2 4
  have f4:=cells_of (W:=W7.drew) HB7.out.res 4 _ rfl
  have e4:=cells_of HB7.out.res 4 _ rfl
  have y5:=(ShTB.cells_heap (w:=W7.drew) HB7.out.res).2 5
  have v5:=(ShTB.cells_heap HB7.out.res).2 5
  have f5:=cells_of (W:=W7.drew) HB7.out.res 5 _ rfl
  have e5:=cells_of HB7.out.res 5 _ rfl
  have y6:=(ShTB.cells_heap (w:=W7.drew) HB7.out.res).2 6
  have v6:=(ShTB.cells_heap HB7.out.res).2 6
  have f6:=cells_of (W:=W7.drew) HB7.out.res 6 _ rfl
  have e6:=cells_of HB7.out.res 6 _ rfl
  go_simp
  refine hK.out _ _ ?_
  clear hK K
  refine zL 13 rfl (fun K hK=>?_)
  go_simp
  refine hK.out _ _ ?_
  clear hK K
  refine zL 14 rfl (fun K hK=>?_)
  exact q71x2
 exact AllReadyZ.nil
theorem rD {t0 t3 t5 t6 t7 t9 t11 t12 t13 t14 t15 t16 t17 t18 t19 t20 t21 t22 t23 t24 t25 t26 t27 t28 t29 t30 t31 t32 t33 t34 t35 t36 t37 t38 t39 t40 t41 t42 t43 t44 t45 t46 t47 t48 t49 t50 t51 t52 t53 t54 t55 t56 t57 t58 t59 t60 t61 t62 t63 t64 t65 t66 t67 t68 t69 t70 t71 t72 t73 t74 t75 t76 t77 t78 t79:Value} {la ua:Option Addr} {ln lc n5 uc:Nat} {b2:Bool} {w W7:World} {X:Ix} {xs:List Int} {Q:Exit→Act→World→Prop} (HB7:Hid (BoxP w X (.slice ua n5 uc) (.slice none 0 0) xs [] W7)) 
  (hQ:∀ W3:World,W3.heap[w.heap.size+1]?=some (.cells #[.int .u8 X.op,.int .i64 X.typ,.int .i64 X.a,.int .i64 X.b,.int .i64 X.n,.slice ua n5 uc,.slice none 0 0] 57 (0,0))→Hid (Below w.heap.size w W3)→Hid (W3.ownsRow w.heap.size 3 1 (.slice ua n5 uc) xs.length (intVals xs))→Hid (W3.ownsRow w.heap.size 3 1 (.slice none 0 0) 0 (intVals []))→Q .normal ⟨#[t0,.slice la ln lc,.pointer (some ⟨w.heap.size,0,none⟩),t3,.pointer (some ⟨w.heap.size+1,0,none⟩),.bool false,t6,t7,.bool false,t9,.bool b2,t11,t12,t13,t14,t15,t16,t17,t18,t19,t20,t21,t22,t23,t24,t25,t26,t27,t28,t29,t30,t31,t32,t33,t34,t35,t36,t37,t38,t39,t40,t41,t42,t43,t44,t45,t46,t47,t48,t49,t50,t51,t52,t53,t54,t55,t56,t57,t58,t59,t60,t61,t62,t63,t64,t65,t66,t67,t68,t69,t70,t71,t72,t73,t74,t75,t76,t77,t78,t79,.agg #[.int .u8 X.op,.int .i64 X.typ,.int .i64 X.a,.int .i64 X.b,.int .i64 X.n,.slice ua n5 uc,.slice none 0 0],.bool false,.bool false,undef,.bool false,.bool false,undef,undef,undef,undef,undef,undef,undef,undef,.bool false],[]⟩ W3) :
  Code.wp Tryz.prog (.region 21 ops true) Q ⟨#[t0,.slice la ln lc,.pointer (some ⟨w.heap.size,0,none⟩),t3,.pointer (some ⟨w.heap.size+1,0,none⟩),t5,t6,t7,.bool false,t9,.bool b2,t11,t12,t13,t14,t15,t16,t17,t18,t19,t20,t21,t22,t23,t24,t25,t26,t27,t28,t29,t30,t31,t32,t33,t34,t35,t36,t37,t38,t39,t40,t41,t42,t43,t44,t45,t46,t47,t48,t49,t50,t51,t52,t53,t54,t55,t56,t57,t58,t59,t60,t61,t62,t63,t64,t65,t66,t67,t68,t69,t70,t71,t72,t73,t74,t75,t76,t77,t78,t79,undef,undef,undef,undef,undef,undef,undef,undef,undef,undef,undef,undef,undef,undef,undef],[]⟩ W7:=by
 have HQ:=hid hQ
 have hbo:=HB7.out.box
 have d0:=later (cells_of hbo 0 _ rfl);have d1:=later (cells_of hbo 1 _ rfl);have d2:=later (cells_of hbo 2 _ rfl);have d3:=later (cells_of hbo 3 _ rfl);have d4:=later (cells_of hbo 4 _ rfl);have d5:=later (cells_of hbo 5 _ rfl);have d6:=later (cells_of hbo 6 _ rfl)
 have HHW:=hid (Aft.refl W7).drew
 clear hbo hQ
 refine wp_region_noPanic ?_
 refine wp_region_Z (S:=(fun w'=>Aft W7 w')) (Z:=[15]) (by kernel_rfl) ?_ (fun hHeld=>?_)
 ·(try dsimp only)
  (exact HHW.out)
 refine zT 0 rfl ?_
 refine zP 1 rfl ?_
 refine zP 2 rfl ?_
 refine zU 3 rfl ?_
 refine zC 4 rfl (fun K hK=>?_)
 go_simp
 refine hK.out _ _ ?_ (fun hHeld=>?_)
 ·(try dsimp only)
  (exact HHW.out)
 clear hK K
 refine zP 5 rfl ?_
 refine zU 6 rfl ?_
 refine zU 7 rfl ?_
 refine zU 8 rfl ?_
 refine zU 9 rfl ?_
 refine zU 10 rfl ?_
 refine zU 11 rfl ?_
 refine zU 12 rfl ?_
 refine zU 13 rfl ?_
 exact q71x1
end Go.Proofs.YtbebficgcemkoaaGreatDoor.RdHr
namespace Go.Proofs.YtbebficgcemkoaaGreatDoor.RdHA
open Go.RowKit Go.Lib TyM TyP ShM ShP ShB IntO SetP LxM LxJ LxY RwO RdM RdA RdO RdB RdP RdQ RdN Fresh Aft RgZ RdHs

theorem q65x1 {P:Prop} (h:P:=by
 intro W3 hk3 HB3 HOA HOF
 dsimp only at hk3
 have x0:=cells_of hk3 0 _ rfl;have x1:=cells_of hk3 1 _ rfl;have x2:=cells_of hk3 2 _ rfl;have x3:=cells_of hk3 3 _ rfl;have x4:=cells_of hk3 4 _ rfl;have x5:=cells_of hk3 5 _ rfl;have x6:=cells_of hk3 6 _ rfl
 clear hk3 HB7
 go_wp2
 (try simp only [Exit.inBlock,Exit.then])
 refine bodyPost_ret (by simp [results,Tryz.results176,go_sem,x0,x1,x2,x3,x4,x5,x6];try rfl) rfl ?_
 exact ⟨⟨op,typ,0,0,0,xs5,[]⟩,_,_,by rw [HN.out];rfl,(fun z h=>by rw [HN.out] at h;exact Option.some.inj h),⟨HOA.out,HOF.out⟩,HB3.out⟩):P:=h
theorem has_rest0f (op typ:Int) (l:List ByteArray) (v:Value) (w:World) (h0:0≤op) (h255:op≤255) (hl:LxP.StrsAt w v l) (hn:l.length≤100000) (hs:∀ x∈l,x.size≤9223372036854775807) (ho:(op == 22)=false) (hrg:regsN op=0) (hge:0≤l.length) (hnb:hasNB op=false) :
  Calls Tryz.prog 176 #[ixV (ix0 op typ) (.slice none 0 0) (.slice none 0 0),v] w (InsR (hasP op typ l) w):=by
 rw [show ixV (ix0 op typ) (.slice none 0 0) (.slice none 0 0)=.agg #[.int .u8 op,.int .i64 typ,.int .i64 0,.int .i64 0,.int .i64 0,.slice none 0 0,.slice none 0 0] from rfl]
 obtain ⟨V,hV⟩:∃ V,V=(w.alloc (.cells #[.int .u8 op,.int .i64 typ,.int .i64 0,.int .i64 0,.int .i64 0,.slice none 0 0,.slice none 0 0] 57)).alloc (.cells #[.int .u8 0,.int .i64 0,.int .i64 0,.int .i64 0,.int .i64 0,.slice none 0 0,.slice none 0 0] 57):=⟨_,rfl⟩
 have hbx:=start_box w op typ
 rw [← hV] at hbx
 have HV:=hid hV
 have HB0:=hid hbx
 have HLV:=hid (hl.below hbx.below)
 have HS:=hid hs
 have HLN:=hid hn
 have f0:V.cell? ⟨w.heap.size,0,none⟩=some (.int .u8 op):=cells_of hbx.box 0 _ rfl
 clear hV hs hbx hn

 have HUS:=hid (ShV.usesR_calls (ix0 op 0) (.slice none 0 0) (.slice none 0 0) V h0 h255 (ints_none V) (by simp [ix0]) ⟨_,_,_,rfl⟩)
 have HRG:=hid (regs_len op)
 have HHN:=hid (fun wx=>hasN_calls op wx)
 have HHR:=hid (fun wx=>hasArgs_calls op h0 h255 wx)
 have hop22:¬ op=22:=by simpa using ho
 obtain ⟨ao,cap,rfl,_⟩:=hl.slice
 obtain ⟨vt,hvt,hrt'⟩:=strs_take hl (k:=0) hge
 have hrt:∀ wx:World,(Instr.slice 74 (.slice ao l.length cap) none (some (.int .i64 0)) none).run Tryz.prog wx=.ok vt wx:=hrt'
 obtain ⟨vd,hvd,hrd'⟩:=strs_drop hl (k:=0) hge
 have hrd:∀ wx:World,(Instr.slice 74 (.slice ao l.length cap) (some (.int .i64 0)) none none).run Tryz.prog wx=.ok vd wx:=hrd'
 have HVD:=hid hvd
 have HM:=hid (fun wx (hx:Below w.heap.size w wx)=>marks_calls 114 (l.take 0) vt wx (hvt.below hx) (by have:=HLN.out;rw [List.length_take];omega) (fun x hx=>HS.out x (List.mem_of_mem_take hx)))
 rw [show (((114:UInt8).toNat:Nat):Int)=114 from rfl] at HM
 obtain ⟨slt,ct,rfl,_⟩:=hvt.slice
 obtain ⟨sld,cd,rfl,_⟩:=hvd.slice
 have hli:¬ (l.length:Int) < 0:=by omega
 have HTL:Hid ((l.take 0).length=0):=by show _=_;rw [List.length_take];omega
 have HDN:Hid ((l.drop 0).length≤100000):=by show _≤_;have:=HLN.out;rw [List.length_drop];omega
 have HSD:Hid (∀ x∈l.drop 0,x.size≤9223372036854775807):=fun x hx=>HS.out x (List.mem_of_mem_drop hx)
 clear hrt' hrd' hvt hvd
 clear hl h0 h255
 unfold OwnI at HUS
 go_enter Tryz.func176,Tryz.ntmps176
 go_wp2_with fail
 rw [← HV.out]
 clear HV
 refine HUS.out.mono ?_
 rintro e w1 ⟨uv,un,rfl,huo,hb1⟩
 have hun:un=0:=by have:=huo.1;have h2:=HRG.out;rw [intVals_length] at this;omega
 subst hun
 obtain ⟨ua,uc,rfl⟩:=own_form huo
 have HB1:=hid (HB0.out.on hb1)
 have HL1:=hid (HLV.out.below hb1)
 have HQ:Hid (hasP op typ l=if l.length < 0 then none else match marksO 114 (l.take 0) with
   | none=>none
   | some r=>restP op typ (if 0 < 0 then r.getD 0 0 else 0) (if 1 < 0 then r.getD 1 0 else 0) (l.drop 0)):=by
  show _=_
  unfold hasP
  rw [if_neg hop22,hrg]
  rfl
 clear huo hb1 HUS HB0 HLV HRG f0 hop22 hrg
 have hq:=HQ.out
 rw [if_neg (by omega)] at hq
 clear HQ
 have HQ:=hid hq
 clear hq hge
 have hmt:marksO 114 (l.take 0)=some []:=rfl
 generalize l.drop 0=m at *
 generalize l.take 0=mt at *
 generalize l.length=ln at *
 go_wp2_with fail
 refine (HM.out w1 HB1.out.below).mono ?_
 rintro e w2 ⟨u,xs,rfl,hown,hsome,hnone,hb2⟩
 obtain ⟨ua,uc,rfl⟩:=own_slice hown
 have HB2:=hid (HB1.out.on hb2)
 have HSM:=hid hsome
 have HOWN:=hid hown
 clear hsome hown hb2 HM HB1 HL1 hrt HLN HS
 have hq:=HQ.out
 rw [hmt] at hq
 rw [hmt]
 have hxs:=HSM.out _ hmt
 subst hxs
 have HR:Hid (hasP op typ l=restP op typ 0 0 m):=hq
 have HBX:Hid (BoxP w (⟨op,typ,0,0,0,[],[]⟩:Ix) (.slice none 0 0) (.slice none 0 0) [] [] w2):=HB2
 clear hq HQ hnone HSM HOWN HB2 HTL hmt
 obtain ⟨wr,hwr⟩:∃ wr,wr=w2:=⟨_,rfl⟩
 subst hwr
 have f0:wr.cell? ⟨w.heap.size,0,none⟩=some (.int .u8 op):=cells_of HBX.out.box 0 _ rfl
 go_wp2_with fail
 refine (HHN.out wr).mono ?_
 rintro e w3 ⟨rfl,rfl⟩
 rw [hnb]
 clear f0 HHN hrd
 have HP:Hid (hasP op typ l=match marksO 114 m with
   | none=>none
   | some q=>if m.length=0∨argsB op=true then some ⟨op,typ,0,0,0,q,[]⟩ else none):=by
  show _=_
  rw [HR.out]
  unfold restP
  rw [if_neg (by rw [hnb];decide)]
  rfl
 have HMD:=hid (fun wx (hx:Below w.heap.size w wx)=>marks_calls 114 m _ wx (HVD.out.below hx) HDN.out HSD.out)
 rw [show (((114:UInt8).toNat:Nat):Int)=114 from rfl] at HMD
 clear HR hnb
 go_wp2_with fail
 refine (HMD.out wr HBX.out.below).mono ?_
 rintro e w5 ⟨u5,xs5,rfl,hown5,hsome5,hnone5,hb5⟩
 have HBX5:=hid (HBX.out.on hb5)
 obtain ⟨ua5,uc5,rfl⟩:=own_slice hown5
 have HOW5:=hid (owns_base hown5 (by have:=HBX.out.size;omega:w.heap.size+2≤wr.heap.size))
 have z5:=(ShTB.cells_heap HBX5.out.box).2 5
 have m5:=cells_of HBX5.out.box 5 _ rfl
 have HSM:=hid hsome5
 clear hown5 hsome5 hb5 HMD HBX HVD
 go_upto_region 21 with fail
 obtain ⟨W7,hW7⟩:∃ wx,wx=w5.setCell ⟨w.heap.size,5,none⟩ (.slice ua5 xs5.length uc5):=⟨_,rfl⟩
 rw [← hW7]
 have HB7:Hid (BoxP w (⟨op,typ,0,0,0,[],[]⟩:Ix) (.slice ua5 xs5.length uc5) (.slice none 0 0) xs5 [] W7):=by
  show BoxP _ _ _ _ _ _ _
  rw [hW7]
  exact RdHs.BoxP.setL HBX5.out HOW5.out (fun g _ h=>by cases h)
 clear hW7 HBX5 HOW5 z5 m5
 generalize xs5.length=n5 at *
 cases hm5:marksO 114 m with
 | none =>
  have hq:=HP.out
  rw [hm5] at hq
  have HN:Hid (hasP op typ l=none):=hq
  have hxs:=hnone5 hm5
  subst hxs
  clear hq HP hm5 hnone5 HSM
  refine RdHr.rA HB7 ?_
  intro W3 hk3 HB3 HOA HOF
  dsimp only at hk3
  have x0:=cells_of hk3 0 _ rfl;have x1:=cells_of hk3 1 _ rfl;have x2:=cells_of hk3 2 _ rfl;have x3:=cells_of hk3 3 _ rfl;have x4:=cells_of hk3 4 _ rfl;have x5:=cells_of hk3 5 _ rfl;have x6:=cells_of hk3 6 _ rfl
  clear hk3 HB7
  go_wp2
  (try simp only [Exit.inBlock,Exit.then])
  refine bodyPost_ret (by simp [results,Tryz.results176,go_sem,x0,x1,x2,x3,x4,x5,x6];try rfl) rfl ?_
  exact ⟨⟨op,typ,0,0,0,[],[]⟩,_,_,by rw [HN.out];rfl,(fun z h=>by rw [HN.out] at h;cases h),⟨HOA.out,HOF.out⟩,HB3.out⟩
 | some q =>
  have hq:=HP.out
  rw [hm5] at hq
  have hxs:=HSM.out q hm5
  subst hxs
  clear HP hm5 hnone5 HSM
  by_cases hlz:m.length=0
  ·have HN:Hid (hasP op typ l=some ⟨op,typ,0,0,0,xs5,[]⟩):=hq.trans (if_pos (.inl hlz))
   have hz1:((m.length:Int) == 0)=true:=by rw [hlz];rfl
   clear hq hlz
   refine RdHr.rB HB7 hz1 ?_
   exact q65x1
  ·have hz1:((m.length:Int) == 0)=false:=by rw [beq_eq_false_iff_ne];omega
   cases hga:argsB op with
   | false =>
    have HN:Hid (hasP op typ l=none):=hq.trans (if_neg (by rw [hga];simp [hlz]))
    rw [hga] at HHR
    clear hq hlz hga
    refine RdHr.rC HB7 hz1 HHR ?_
    intro W3 hk3 HB3 HOA HOF
    dsimp only at hk3
    have x0:=cells_of hk3 0 _ rfl;have x1:=cells_of hk3 1 _ rfl;have x2:=cells_of hk3 2 _ rfl;have x3:=cells_of hk3 3 _ rfl;have x4:=cells_of hk3 4 _ rfl;have x5:=cells_of hk3 5 _ rfl;have x6:=cells_of hk3 6 _ rfl
    clear hk3 HB7
    go_wp2
    (try simp only [Exit.inBlock,Exit.then])
    refine bodyPost_ret (by simp [results,Tryz.results176,go_sem,x0,x1,x2,x3,x4,x5,x6];try rfl) rfl ?_
    exact ⟨⟨op,typ,0,0,0,xs5,[]⟩,_,_,by rw [HN.out];rfl,(fun z h=>by rw [HN.out] at h;cases h),⟨HOA.out,HOF.out⟩,HB3.out⟩
   | true =>
    have HN:Hid (hasP op typ l=some ⟨op,typ,0,0,0,xs5,[]⟩):=hq.trans (if_pos (by rw [hga];simp))
    rw [hga] at HHR
    clear hq hlz hga
    refine RdHr.rC HB7 hz1 HHR ?_
    exact q65x1
end Go.Proofs.YtbebficgcemkoaaGreatDoor.RdHA
namespace Go.Proofs.YtbebficgcemkoaaGreatDoor.RdHB
open Go.RowKit Go.Lib TyM TyP ShM ShP ShB IntO SetP LxM LxJ LxY RwO RdM RdA RdO RdB RdP RdQ RdN Fresh Aft RgZ RdHs

theorem q66x1 {P:Prop} (h:P:=by
 intro W3 hk3 HB3 HOA HOF
 dsimp only at hk3
 have x0:=cells_of hk3 0 _ rfl;have x1:=cells_of hk3 1 _ rfl;have x2:=cells_of hk3 2 _ rfl;have x3:=cells_of hk3 3 _ rfl;have x4:=cells_of hk3 4 _ rfl;have x5:=cells_of hk3 5 _ rfl;have x6:=cells_of hk3 6 _ rfl
 clear hk3 HB7
 go_wp2
 (try simp only [Exit.inBlock,Exit.then])
 refine bodyPost_ret (by simp [results,Tryz.results176,go_sem,x0,x1,x2,x3,x4,x5,x6];try rfl) rfl ?_
 exact ⟨⟨op,typ,q0,0,0,xs5,[]⟩,_,_,by rw [HN.out];rfl,(fun z h=>by rw [HN.out] at h;exact Option.some.inj h),⟨HOA.out,HOF.out⟩,HB3.out⟩):P:=h
theorem has_rest1f (op typ:Int) (l:List ByteArray) (v:Value) (w:World) (h0:0≤op) (h255:op≤255) (hl:LxP.StrsAt w v l) (hn:l.length≤100000) (hs:∀ x∈l,x.size≤9223372036854775807) (ho:(op == 22)=false) (hrg:regsN op=1) (hge:1≤l.length) (hnb:hasNB op=false) :
  Calls Tryz.prog 176 #[ixV (ix0 op typ) (.slice none 0 0) (.slice none 0 0),v] w (InsR (hasP op typ l) w):=by
 rw [show ixV (ix0 op typ) (.slice none 0 0) (.slice none 0 0)=.agg #[.int .u8 op,.int .i64 typ,.int .i64 0,.int .i64 0,.int .i64 0,.slice none 0 0,.slice none 0 0] from rfl]
 obtain ⟨V,hV⟩:∃ V,V=(w.alloc (.cells #[.int .u8 op,.int .i64 typ,.int .i64 0,.int .i64 0,.int .i64 0,.slice none 0 0,.slice none 0 0] 57)).alloc (.cells #[.int .u8 0,.int .i64 0,.int .i64 0,.int .i64 0,.int .i64 0,.slice none 0 0,.slice none 0 0] 57):=⟨_,rfl⟩
 have hbx:=start_box w op typ
 rw [← hV] at hbx
 have HV:=hid hV
 have HB0:=hid hbx
 have HLV:=hid (hl.below hbx.below)
 have HS:=hid hs
 have HLN:=hid hn
 have f0:V.cell? ⟨w.heap.size,0,none⟩=some (.int .u8 op):=cells_of hbx.box 0 _ rfl
 clear hV hs hbx hn

 have HUS:=hid (ShV.usesR_calls (ix0 op 0) (.slice none 0 0) (.slice none 0 0) V h0 h255 (ints_none V) (by simp [ix0]) ⟨_,_,_,rfl⟩)
 have HRG:=hid (regs_len op)
 have HHN:=hid (fun wx=>hasN_calls op wx)
 have HHR:=hid (fun wx=>hasArgs_calls op h0 h255 wx)
 have hop22:¬ op=22:=by simpa using ho
 obtain ⟨ao,cap,rfl,_⟩:=hl.slice
 obtain ⟨vt,hvt,hrt'⟩:=strs_take hl (k:=1) hge
 have hrt:∀ wx:World,(Instr.slice 74 (.slice ao l.length cap) none (some (.int .i64 1)) none).run Tryz.prog wx=.ok vt wx:=hrt'
 obtain ⟨vd,hvd,hrd'⟩:=strs_drop hl (k:=1) hge
 have hrd:∀ wx:World,(Instr.slice 74 (.slice ao l.length cap) (some (.int .i64 1)) none none).run Tryz.prog wx=.ok vd wx:=hrd'
 have HVD:=hid hvd
 have HM:=hid (fun wx (hx:Below w.heap.size w wx)=>marks_calls 114 (l.take 1) vt wx (hvt.below hx) (by have:=HLN.out;rw [List.length_take];omega) (fun x hx=>HS.out x (List.mem_of_mem_take hx)))
 rw [show (((114:UInt8).toNat:Nat):Int)=114 from rfl] at HM
 obtain ⟨slt,ct,rfl,_⟩:=hvt.slice
 obtain ⟨sld,cd,rfl,_⟩:=hvd.slice
 have hli:¬ (l.length:Int) < 1:=by omega
 have HTL:Hid ((l.take 1).length=1):=by show _=_;rw [List.length_take];omega
 have HDN:Hid ((l.drop 1).length≤100000):=by show _≤_;have:=HLN.out;rw [List.length_drop];omega
 have HSD:Hid (∀ x∈l.drop 1,x.size≤9223372036854775807):=fun x hx=>HS.out x (List.mem_of_mem_drop hx)
 clear hrt' hrd' hvt hvd
 clear hl h0 h255
 unfold OwnI at HUS
 go_enter Tryz.func176,Tryz.ntmps176
 go_wp2_with fail
 rw [← HV.out]
 clear HV
 refine HUS.out.mono ?_
 rintro e w1 ⟨uv,un,rfl,huo,hb1⟩
 have hun:un=1:=by have:=huo.1;have h2:=HRG.out;rw [intVals_length] at this;omega
 subst hun
 obtain ⟨ua,uc,rfl⟩:=own_form huo
 have HB1:=hid (HB0.out.on hb1)
 have HL1:=hid (HLV.out.below hb1)
 have HQ:Hid (hasP op typ l=if l.length < 1 then none else match marksO 114 (l.take 1) with
   | none=>none
   | some r=>restP op typ (if 0 < 1 then r.getD 0 0 else 0) (if 1 < 1 then r.getD 1 0 else 0) (l.drop 1)):=by
  show _=_
  unfold hasP
  rw [if_neg hop22,hrg]
  rfl
 clear huo hb1 HUS HB0 HLV HRG f0 hop22 hrg
 have hq:=HQ.out
 rw [if_neg (by omega)] at hq
 clear HQ
 have HQ:=hid hq
 clear hq hge
 generalize l.drop 1=m at *
 generalize l.take 1=mt at *
 generalize l.length=ln at *
 go_wp2_with fail
 refine (HM.out w1 HB1.out.below).mono ?_
 rintro e w2 ⟨u,xs,rfl,hown,hsome,hnone,hb2⟩
 obtain ⟨ua,uc,rfl⟩:=own_slice hown
 have HB2:=hid (HB1.out.on hb2)
 have HSM:=hid hsome
 have HOWN:=hid hown
 clear hsome hown hb2 HM HB1 HL1 hrt HLN HS
 cases hm:marksO 114 mt with
 | none =>
  have hq:=HQ.out
  rw [hm] at hq
  have HN:Hid (hasP op typ l=none):=hq
  have hxs:=hnone hm
  subst hxs
  clear hq HQ hm hnone HSM HOWN HTL
  have hbx:=HB2.out
  have hbo:=hbx.box
  have hre:=hbx.res
  have m0:=cells_of hbo 0 _ rfl;have m1:=cells_of hbo 1 _ rfl;have m2:=cells_of hbo 2 _ rfl;have m3:=cells_of hbo 3 _ rfl;have m4:=cells_of hbo 4 _ rfl;have m5:=cells_of hbo 5 _ rfl;have m6:=cells_of hbo 6 _ rfl
  have y0:=cells_of hre 0 _ rfl;have y1:=cells_of hre 1 _ rfl;have y2:=cells_of hre 2 _ rfl;have y3:=cells_of hre 3 _ rfl;have y4:=cells_of hre 4 _ rfl;have y5:=cells_of hre 5 _ rfl;have y6:=cells_of hre 6 _ rfl
  have hz:=(ShTB.cells_heap hre).2
  have z0:=hz 0;have z1:=hz 1;have z2:=hz 2;have z3:=hz 3;have z4:=hz 4;have z5:=hz 5;have z6:=hz 6
  obtain ⟨W3,hW3,hk3,hb3,hoa,hof⟩:=res_facts hbx
  have HW3:=hid hW3
  have HB3:=hid hb3
  have HOA:=hid hoa
  have HOF:=hid hof
  have x0:=cells_of hk3 0 _ rfl;have x1:=cells_of hk3 1 _ rfl;have x2:=cells_of hk3 2 _ rfl;have x3:=cells_of hk3 3 _ rfl;have x4:=cells_of hk3 4 _ rfl;have x5:=cells_of hk3 5 _ rfl;have x6:=cells_of hk3 6 _ rfl
  clear hW3 hk3 hb3 hoa hof hbo hre hbx hz
  go_wp2
  (try simp only [Exit.inBlock,Exit.then])
  rw [← HW3.out]
  refine bodyPost_ret (by simp [results,Tryz.results176,go_sem,x0,x1,x2,x3,x4,x5,x6];try rfl) rfl ?_
  exact ⟨⟨op,typ,0,0,0,[],[]⟩,_,_,by rw [HN.out];rfl,(fun z h=>by rw [HN.out] at h;cases h),⟨HOA.out,HOF.out⟩,HB3.out⟩
 | some r =>
  have hq:=HQ.out
  rw [hm] at hq
  have hxs:=HSM.out r hm
  subst hxs
  have hln:=(marks_len hm).trans HTL.out
  obtain ⟨q0,rfl⟩:=one_of hln
  have HR:Hid (hasP op typ l=restP op typ q0 0 m):=hq
  clear hq HQ hm hnone HSM hln HTL
  obtain ⟨g,cap2,hg,_,_,_,hc⟩:=TyW.row_cells HOWN.out (by rw [intVals_length];exact Nat.succ_pos _)
  cases hg
  have k0:=hc 0 (.int .i64 q0) rfl
  have z2:=(ShTB.cells_heap HB2.out.box).2 2
  have m2:=cells_of HB2.out.box 2 _ rfl
  clear hc
  go_upto_region 13 with fail
  obtain ⟨w4,hW4⟩:∃ wx,wx=w2.setCell ⟨w.heap.size,2,none⟩ (.int .i64 q0):=⟨_,rfl⟩
  rw [← hW4]
  have HB4:Hid (BoxP w (⟨op,typ,q0,0,0,[],[]⟩:Ix) (.slice none 0 0) (.slice none 0 0) [] [] w4):=by show BoxP _ _ _ _ _ _ _;rw [hW4];exact RdHs.BoxP.setA HB2.out q0
  have HBX:=HB4
  obtain ⟨wr,hwr⟩:∃ wr,wr=w4:=⟨_,rfl⟩
  subst hwr
  clear hW4 HB2 HB4 HOWN z2 m2 k0
  have f0:wr.cell? ⟨w.heap.size,0,none⟩=some (.int .u8 op):=cells_of HBX.out.box 0 _ rfl
  go_wp2_with fail
  refine (HHN.out wr).mono ?_
  rintro e w3 ⟨rfl,rfl⟩
  rw [hnb]
  clear f0 HHN hrd
  have HP:Hid (hasP op typ l=match marksO 114 m with
    | none=>none
    | some q=>if m.length=0∨argsB op=true then some ⟨op,typ,q0,0,0,q,[]⟩ else none):=by
   show _=_
   rw [HR.out]
   unfold restP
   rw [if_neg (by rw [hnb];decide)]
   rfl
  have HMD:=hid (fun wx (hx:Below w.heap.size w wx)=>marks_calls 114 m _ wx (HVD.out.below hx) HDN.out HSD.out)
  rw [show (((114:UInt8).toNat:Nat):Int)=114 from rfl] at HMD
  clear HR hnb
  go_wp2_with fail
  refine (HMD.out wr HBX.out.below).mono ?_
  rintro e w5 ⟨u5,xs5,rfl,hown5,hsome5,hnone5,hb5⟩
  have HBX5:=hid (HBX.out.on hb5)
  obtain ⟨ua5,uc5,rfl⟩:=own_slice hown5
  have HOW5:=hid (owns_base hown5 (by have:=HBX.out.size;omega:w.heap.size+2≤wr.heap.size))
  have z5:=(ShTB.cells_heap HBX5.out.box).2 5
  have m5:=cells_of HBX5.out.box 5 _ rfl
  have HSM:=hid hsome5
  clear hown5 hsome5 hb5 HMD HBX HVD
  go_upto_region 21 with fail
  obtain ⟨W7,hW7⟩:∃ wx,wx=w5.setCell ⟨w.heap.size,5,none⟩ (.slice ua5 xs5.length uc5):=⟨_,rfl⟩
  rw [← hW7]
  have HB7:Hid (BoxP w (⟨op,typ,q0,0,0,[],[]⟩:Ix) (.slice ua5 xs5.length uc5) (.slice none 0 0) xs5 [] W7):=by
   show BoxP _ _ _ _ _ _ _
   rw [hW7]
   exact RdHs.BoxP.setL HBX5.out HOW5.out (fun g _ h=>by cases h)
  clear hW7 HBX5 HOW5 z5 m5
  generalize xs5.length=n5 at *
  cases hm5:marksO 114 m with
  | none =>
   have hq:=HP.out
   rw [hm5] at hq
   have HN:Hid (hasP op typ l=none):=hq
   have hxs:=hnone5 hm5
   subst hxs
   clear hq HP hm5 hnone5 HSM
   refine RdHr.rA HB7 ?_
   intro W3 hk3 HB3 HOA HOF
   dsimp only at hk3
   have x0:=cells_of hk3 0 _ rfl;have x1:=cells_of hk3 1 _ rfl;have x2:=cells_of hk3 2 _ rfl;have x3:=cells_of hk3 3 _ rfl;have x4:=cells_of hk3 4 _ rfl;have x5:=cells_of hk3 5 _ rfl;have x6:=cells_of hk3 6 _ rfl
   clear hk3 HB7
   go_wp2
   (try simp only [Exit.inBlock,Exit.then])
   refine bodyPost_ret (by simp [results,Tryz.results176,go_sem,x0,x1,x2,x3,x4,x5,x6];try rfl) rfl ?_
   exact ⟨⟨op,typ,q0,0,0,[],[]⟩,_,_,by rw [HN.out];rfl,(fun z h=>by rw [HN.out] at h;cases h),⟨HOA.out,HOF.out⟩,HB3.out⟩
  | some q =>
   have hq:=HP.out
   rw [hm5] at hq
   have hxs:=HSM.out q hm5
   subst hxs
   clear HP hm5 hnone5 HSM
   by_cases hlz:m.length=0
   ·have HN:Hid (hasP op typ l=some ⟨op,typ,q0,0,0,xs5,[]⟩):=hq.trans (if_pos (.inl hlz))
    have hz1:((m.length:Int) == 0)=true:=by rw [hlz];rfl
    clear hq hlz
    refine RdHr.rB HB7 hz1 ?_
    exact q66x1
   ·have hz1:((m.length:Int) == 0)=false:=by rw [beq_eq_false_iff_ne];omega
    cases hga:argsB op with
    | false =>
     have HN:Hid (hasP op typ l=none):=hq.trans (if_neg (by rw [hga];simp [hlz]))
     rw [hga] at HHR
     clear hq hlz hga
     refine RdHr.rC HB7 hz1 HHR ?_
     intro W3 hk3 HB3 HOA HOF
     dsimp only at hk3
     have x0:=cells_of hk3 0 _ rfl;have x1:=cells_of hk3 1 _ rfl;have x2:=cells_of hk3 2 _ rfl;have x3:=cells_of hk3 3 _ rfl;have x4:=cells_of hk3 4 _ rfl;have x5:=cells_of hk3 5 _ rfl;have x6:=cells_of hk3 6 _ rfl
     clear hk3 HB7
     go_wp2
     (try simp only [Exit.inBlock,Exit.then])
     refine bodyPost_ret (by simp [results,Tryz.results176,go_sem,x0,x1,x2,x3,x4,x5,x6];try rfl) rfl ?_
     exact ⟨⟨op,typ,q0,0,0,xs5,[]⟩,_,_,by rw [HN.out];rfl,(fun z h=>by rw [HN.out] at h;cases h),⟨HOA.out,HOF.out⟩,HB3.out⟩
    | true =>
     have HN:Hid (hasP op typ l=some ⟨op,typ,q0,0,0,xs5,[]⟩):=hq.trans (if_pos (by rw [hga];simp))
     rw [hga] at HHR
     clear hq hlz hga
     refine RdHr.rC HB7 hz1 HHR ?_
     exact q66x1
end Go.Proofs.YtbebficgcemkoaaGreatDoor.RdHB
