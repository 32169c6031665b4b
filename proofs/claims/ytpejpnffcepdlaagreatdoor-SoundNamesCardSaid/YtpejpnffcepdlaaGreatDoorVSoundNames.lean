/- Layer 12 (sound): the examples of the chapter, and those of each rule, answer as the document says. -/
import Derived.Test.YtpejpnffcepdlaaGreatDoorVRcYToSyN
import Derived.Test.YtpejpnffcepdlaaGreatDoorVSzI
import Derived.Test.YtpejpnffcepdlaaGreatDoorVRdTab
import Derived.Test.YtpejpnffcepdlaaGreatDoorCards
import Derived.Test.YtpejpnffcepdlaaGreatDoorTie
import Derived.Deep.DeepHandedRow
import Derived.Lib.LaidTab
import Derived.LaidSub
import Derived.WalkKit
import Derived.ProofKit
import Derived.OpenShut
import Derived.ShutString
import Derived.ChangeOld
import Derived.Below
set_option maxRecDepth 100000
set_option maxHeartbeats 16000000
namespace Go.Proofs.YtpejpnffcepdlaaGreatDoor.soundNames
open Go.ChangeShapes Go.WideShapes Go.ChangeAt Go.RowKit
open Go.ChangeMaps (open_string shut_string)
set_option linter.unusedVariables false

theorem own:ownKnob Tryz.prog.godebug=none:=by kernel_rfl

theorem onlyRows:(Rows.soundNamesRow.laid.filter fun x=>x.1 == "fescue/shape.rows")=[("fescue/shape.rows",Rows.laid_fescue_shape_rows)]:=by kernel_rfl
theorem onlyEnds:(Rows.soundNamesRow.laid.filter fun x=>x.1 == "fescue/shape.endRows")=[("fescue/shape.endRows",Rows.laid_fescue_shape_endRows)]:=by kernel_rfl
theorem onlyOps:(Rows.soundNamesRow.laid.filter fun x=>x.1 == "fescue/read.ops")=[("fescue/read.ops",Rows.laid_fescue_read_ops)]:=by kernel_rfl
def kiName:String := "fescue/lex.kinds"
def kiInts:List Int:=LxK.kT.map fun (n:Nat)=>(n:Int)
theorem gKi:Tryz.prog.globalNamed kiName=some 2:=by kernel_rfl
theorem gKiType:(Tryz.prog.globals[2]?).map (·.type)=some 261:=by kernel_rfl
theorem cellsArr:Tryz.prog.cellsOf 261=36:=by kernel_rfl
theorem cellsU8:Tryz.prog.cellsOf 5=1:=by kernel_rfl
theorem onlyKi:(Rows.soundNamesRow.laid.filter fun x=>x.1 == kiName)=[(kiName,Lib.tabData .u8 kiInts)]:=by kernel_rfl
theorem plainLaid:(Rows.soundNamesRow.laid.all fun x=>x.2.handleName?.isNone)=true:=by kernel_rfl
theorem tab_of {g:Nat} {tab:List Nat} {W:World} (h:∀ i,i < (tab.map fun (n:Nat)=>(n:Int)).length→W.cell? ⟨g,i,none⟩=some (.int .u8 ((tab.map fun (n:Nat)=>(n:Int)).getD i 0))):LxK.TabK g tab W:=by
 intro j hj
 rw [h j (by simpa using hj)]
 simp [List.getD,hj]
theorem table {W:World} (h:laidMetH Tryz.prog Rows.soundNamesRow.laid W):LxK.Tab W∧ShA.Tab W∧RcO.TabO W:=by
 have h1:laidMet Tryz.prog Rows.soundNamesRow.laid W:=(laidMetH_iff.1 h).1 |> fun h=>by
  rw [List.filter_eq_self.2 (fun x hx=>List.all_eq_true.1 plainLaid x hx)] at h
  exact h
 have h2:=laidMet.filter (fun x=>x.1 == "fescue/shape.rows") h1
 have h3:=laidMet.filter (fun x=>x.1 == "fescue/shape.endRows") h1
 have h4:=laidMet.filter (fun x=>x.1 == kiName) h1
 have h5:=laidMet.filter (fun x=>x.1 == "fescue/read.ops") h1
 rw [onlyRows] at h2
 rw [onlyEnds] at h3
 rw [onlyKi] at h4
 rw [onlyOps] at h5
 have ht:Lib.TabIs Tryz.prog W kiName .u8 kiInts:=Lib.tabIs_of_head gKi gKiType Tryz.underlying261 Tryz.underlying5 cellsU8 cellsArr h4
 exact ⟨tab_of fun i hi=>ht.cell gKi i hi,⟨ShTab.tabH h2,ShTab.tabE h3⟩,RdTab.tabO h5⟩

theorem contract (H:Type) (enc:TypeId × Value→H) (W:World) (base:Nat) (args:Array Value) (ds gs:List (DataW H)) (before:List MemPlace)
  (hval0:∀ (j:Nat) t v,Tryz.f3.params[j]?=some t→args[j]?=some v→Value.okWide Tryz.prog W .any base t v)
  (hW:DataW.Whole enc Tryz.prog Tryz.f3.params.toList Rows.soundNamesSpec.vars false W args.toList ds gs before) (hL:laidMetH Tryz.prog Rows.soundNamesRow.laid W) :
  Calls Tryz.prog 3 args W fun e W'=>∃ v,e=.returned v∧Rows.soundNamesSpec.post enc Tryz.prog Tryz.f3 false true false false W args v W':=by
 have hval:∀ (j:Nat) t v,Tryz.f3.params[j]?=some t→args[j]?=some v→Value.okWide Tryz.prog W .any base t v:=hval0
 have hW':=hW
 obtain ⟨p,q,hA0,hV,rfl,hfz,hnd⟩:=hW
 have hA:DataW.TrodAll enc Tryz.prog W 0 (fun _=>true) true Tryz.f3.params.toList args.toList ds p:=hA0
 rw [Tryz.params3] at hA hval
 obtain ⟨rfl,rfl,rfl⟩:=trodAll_none hA
 obtain ⟨rfl,rfl⟩:=trodVars_none hV
 clear hA0 hval0
 simp only [List.append_nil] at hW'
 refine (SyN.walk_of SzI.check_c SzI.kind_c   W (table hL).1 (table hL).2.1 (table hL).2.2).mono fun e W' ⟨he,bel⟩=>?_
 subst he
 exact ⟨_,rfl,_,_,_,[],_,[],hW',trodAll_mk1 (shut_bool Tryz.underlying4 _),trodAll_mk0,rfl,bel.frame _,fun h=>by cases h⟩

noncomputable def cellOfData:DataW Unit→Value
 | .lit (.int k n)=>Value.int k n
 | .lit (.string l)=>Value.string ⟨l.toArray⟩
 | _=>Value.bool false
noncomputable def cellsOfData:DataW Unit→Array Value
 | .agg l=>(l.flatMap fun d=>match d with
  | .agg m=>m.map cellOfData
  | d=>[cellOfData d]).toArray
 | _=>#[]
noncomputable def layOne (h:Array Obj) (x:String × DataW Unit):Array Obj :=
 match Tryz.prog.globalNamed x.1 with
 | some g=>h.modify g fun o=>match o with
  | .cells _ t fr=>.cells (cellsOfData x.2) t fr
  | o=>o
 | none=>h
noncomputable def laidWorld (os:Os):World :=
 { World.holding Tryz.prog os ⟨#[],#[],[]⟩ with heap:=Rows.soundNamesRow.laid.foldl layOne (World.holding Tryz.prog os ⟨#[],#[],[]⟩).heap }
theorem laid_met (os:Os):laidMet Tryz.prog Rows.soundNamesRow.laid ((laidWorld os).forCall (fun _ _=>0) ⟨#[],#[],[]⟩).memory :=
 laidMet_of_run' 8 (by kernel_rfl) (by kernel_rfl)
theorem reads (os:Os) {H:Type} (enc:TypeId × Value→H):∃ places,DataW.whole enc Tryz.prog ((laidWorld os).forCall (fun _ _=>0) ⟨#[],#[],[]⟩).memory Tryz.f3.params.toList Rows.soundNamesSpec.vars false (#[]:Array Value).toList 8=some ([],[],places) :=
 ⟨[],by kernel_rfl⟩

theorem lifted (os:Os) (started:os.Started) (H:Type) (enc:TypeId × Value→H) (F:Stop.Interp) :
  ReturnsInHanded {} Tryz.checked os 3 .any ((OpenSpec.ofChange Rows.soundNamesSpec).preRow enc Tryz.prog Tryz.f3 Rows.soundNamesRow.domain false Rows.soundNamesRow.laid) (((OpenSpec.ofChange Rows.soundNamesSpec).at F).post enc Tryz.prog Tryz.f3 false true false false):=by
 obtain ⟨places,hx⟩:=reads os enc
 refine returnsInHanded_of_row (C:=Tryz.checked) (s:=OpenSpec.ofChange Rows.soundNamesSpec) own started (by kernel_rfl) Tryz.func3
  (witness_row_at (enc:=enc) (C:=Tryz.checked) false (laidWorld os) #[] rfl (by kernel_rfl) (by kernel_rfl) (by kernel_rfl)
   (OpenSpec.preRow_of_cond 8 hx (by kernel_rfl) (fun k hk=>by cases hk) (by kernel_rfl) (laid_met os))) ?_
 intro W base args ds gs before hval hW _ _ _ hL _ _
 exact contract H enc W base args ds gs before hval hW hL

theorem said:Rows.SoundNamesSaid :=
 OpenClaim.holds_of_cond 3 Tryz.f3 rfl rfl rfl rfl rfl rfl rfl ⟨rfl,rfl,rfl,rfl,rfl⟩ rfl rfl rfl rfl rfl (by kernel_rfl) Tryz.func3 (by kernel_rfl)
  (of_decide_eq_true (by kernel_rfl)) (by unfold Func.isWrapper;first | (rw [if_pos (by decide +kernel)];kernel_rfl) | (rw [if_neg (by decide +kernel)];exact ⟨rfl,rfl⟩))
  (fun os started H enc _ F=>by rw [OpenClaim.pre_eq_preRow];exact lifted os started H enc F)

theorem plain (f:FuncId) (fn:Func) (hf:Tryz.pinned.checked.prog.funcNamed Rows.soundNamesRow.func=some f) (hfn:Tryz.pinned.checked.prog.funcs[f]?=some fn) :
  true=Tryz.pinned.checked.prog.looks []∧∀ (j:Nat) t,fn.params[j]?=some t→Tryz.pinned.checked.prog.wantsStandIn t=false:=by
 obtain rfl:f=3:=Option.some.inj ((show Tryz.prog.funcNamed Rows.soundNamesRow.func=some 3 by kernel_rfl).symm.trans hf) |>.symm
 obtain rfl:fn=Tryz.f3:=(Option.some.inj (Tryz.func3.symm.trans hfn)).symm
 refine ⟨by kernel_rfl,fun j t ht=>?_⟩
 rw [Tryz.params3] at ht
 simp at ht

theorem card:Rows.SoundNamesCardSaid :=
 Claim7.holds_tied_plain_at .later [] _ _ _ _ said (fun _ h=>by cases h) (by kernel_rfl) (fun _ h=>by cases h) soundNames_row_tie rfl ⟨rfl,rfl⟩ (by kernel_rfl) rfl plain (by kernel_rfl)
end Go.Proofs.YtpejpnffcepdlaaGreatDoor.soundNames
