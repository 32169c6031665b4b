/- A region that draws its order, whose last operations store into cells that its loads read: what is held is asked only while none of those stores has come up. RgZ's laws, short: what each step asks besides is shown by itself. -/
import Derived.Deep.RegionHeld3
namespace Go.Proofs.YtpejpnffcepdlaaGreatDoor.RgZ
open Go

section
variable {P:Program} {ops:Array Oper} {Q:Exit→Act→World→Prop} {md:Region.Mode} {S:World→Prop} {Z:List Nat}

def Unlisted (Z:List Nat) (listed:Array Bool):Prop:=∀ s∈Z,listed.getD s true=false
def wpAnyZ (P:Program) (md:Region.Mode) (ops:Array Oper) (Q:Exit→Act→World→Prop) (S:World→Prop) (Z:List Nat):Nat→Array Bool→Act→World→Prop
 | 0,listed,a,w=>Region.ready md ops listed=[]∧Q .normal a w
 | fuel+1,listed,a,w =>
  (Region.ready md ops listed=[]→Q .normal a w) ∧
  ∀ i∈Region.ready md ops listed,wpOp P ops Q i (fun a' w'=>(Unlisted Z (listed.setIfInBounds i true)→S w')∧wpAnyZ P md ops Q S Z fuel (listed.setIfInBounds i true) a' w') a w

theorem wpAny_of_Z:∀ (fuel:Nat) (listed:Array Bool) (a:Act) (w:World),wpAnyZ P md ops Q S Z fuel listed a w→wpAny P md ops Q fuel listed a w
 | 0,_,_,_,h=>h
 | fuel+1,_,_,_,h=>⟨h.1,fun i hi=>wpOp_mono (fun a' w' h'=>wpAny_of_Z fuel _ a' w' h'.2) (h.2 i hi)⟩

def waitsB (md:Region.Mode) (ops:Array Oper) (i:Nat) (Z:List Nat):Bool:=Z.all fun s=>match ops[s]? with
 | some o=>o.after.toList.any fun e=>Region.binds md e && decide (e.on=i)
 | none=>false

theorem unlisted_set {Z:List Nat} {listed:Array Bool} {j:Nat} (h:Unlisted Z listed) (hj:j∉Z):Unlisted Z (listed.setIfInBounds j true):=fun s hs=>by
 have hne:j≠s:=fun e=>hj (e ▸ hs)
 rw [getD_set_ne true hne]
 exact h s hs

theorem wpAnyZ_first {i:Nat} {oi:Oper} {v:Value} (hi:ops[i]?=some oi) (hsel:∀ (j:Nat) (o:Oper) cs b,ops[j]?=some o→o.op≠.select cs b)
  (hQ:∀ c a w,Q (.panic c) (a.put oi.dst v) w→Q (.panic c) a w) (hz:waitsB md ops i Z=true) :
  ∀ (fuel:Nat) (listed:Array Bool) (a:Act) (w:World),
   (∀ j oj,ops[j]?=some oj→j≠i→listed.getD j true=false→(∀ e∈oj.after,Region.binds md e=true→e.on≠i)→oi.apart ops oj=true) →
   i∈Region.ready md ops listed→YieldsIf P ops S oi v a→Unlisted Z listed→S w →
   wpAnyZ P md ops Q S Z fuel (listed.setIfInBounds i true) (a.put oi.dst v) w→wpAnyZ P md ops Q S Z (fuel+1) listed a w:=by
 intro fuel
 induction fuel with
 | zero =>
  intro listed a w _ hr hy hU hS H
  refine ⟨fun h=>(by rw [h] at hr;cases hr),fun j hj=>?_⟩
  by_cases hji:j=i
  ·subst hji;exact hy.wpOp hi hS ⟨fun _=>hS,H⟩
  ·have:=ready_mono hj hji
   rw [H.1] at this
   cases this
 | succ fuel ih =>
  intro listed a w hfree hr hy hU hS H
  refine ⟨fun h=>(by rw [h] at hr;cases hr),fun j hj=>?_⟩
  by_cases hji:j=i
  ·subst hji;exact hy.wpOp hi hS ⟨fun _=>hS,H⟩
  ·have h1:=H.2 j (ready_mono hj hji)
   obtain ⟨hjun,oj,hoj,hall⟩:=mem_ready.1 hj
   have hnot:∀ e∈oj.after,Region.binds md e=true→e.on≠i:=fun e he hb heq=>by
    have h1:=hall e he hb
    have h0:=(mem_ready.1 hr).1
    rw [heq] at h1
    rcases Nat.lt_or_ge i listed.size with h' | h'
    ·simp [h'] at h0 h1;rw [h0] at h1;cases h1
    ·simp [Array.getElem?_eq_none h'] at h1
   have hjZ:j∉Z:=fun hm=>by
    have:=List.all_eq_true.1 hz j hm
    rw [hoj] at this
    simp only [List.any_eq_true,Bool.and_eq_true,decide_eq_true_eq,Array.mem_toList_iff] at this
    obtain ⟨e,he,hb,heq⟩:=this
    exact hnot e he hb heq
   have hiZ:∀ {s},s∈Z→i≠s:=fun {s} hm e=>by
    have h0:=hU s hm
    subst e
    have:=List.all_eq_true.1 hz i hm
    obtain ⟨h1,o,ho,hall2⟩:=mem_ready.1 hr
    rw [ho] at this
    simp only [List.any_eq_true,Bool.and_eq_true,decide_eq_true_eq,Array.mem_toList_iff] at this
    obtain ⟨e,he,hb,heq⟩:=this
    have h2:=hall2 e he hb
    rw [heq] at h2
    rcases Nat.lt_or_ge i listed.size with h' | h'
    ·simp [h'] at h1 h2;rw [h1] at h2;cases h2
    ·simp [Array.getElem?_eq_none h'] at h2
   have h2:=wpOp_putIf hoj (hfree j oj hoj hji hjun hnot) (fun cs b=>hsel i oi cs b hi) (fun cs b=>hsel j oj cs b hoj) hQ hy h1
   have hfree' : ∀ k ok,ops[k]?=some ok→k≠i→(listed.setIfInBounds j true).getD k true=false →
     (∀ e∈ok.after,Region.binds md e=true→e.on≠i)→oi.apart ops ok=true:=fun k ok hk hki hun hno=>by
    refine hfree k ok hk hki ?_ hno
    by_cases hjk:j=k
    ·subst hjk;exact hjun
    ·rw [getD_set_ne true hjk] at hun;exact hun
   have hU':=unlisted_set hU hjZ
   refine wpOp_mono (fun a' w' h3=>?_) h2
   have hS' : S w':=h3.2.1 fun s hs=>by
    rw [Array.setIfInBounds_comm _ _ (Ne.symm hji),getD_set_ne true (hiZ hs)]
    exact hU' s hs
   refine ⟨fun _=>hS',ih (listed.setIfInBounds j true) a' w' hfree' (ready_mono hr (Ne.symm hji)) h3.1 hU' hS' ?_⟩
   rw [Array.setIfInBounds_comm _ _ hji]
   exact h3.2.2

def unlistedB (Z:List Nat) (listed:Array Bool):Bool:=Z.all fun s=>listed.getD s true == false
theorem unlisted_iff {Z:List Nat} {listed:Array Bool} : unlistedB Z listed=true↔Unlisted Z listed:=by
 unfold unlistedB Unlisted
 simp
theorem wpAnyZ_take {i:Nat} {oi:Oper} {v:Value} {fuel:Nat} {listed:Array Bool} {a:Act} {w:World} (hi:ops[i]?=some oi)
  (hs:Region.noSelect ops=true) (hf:Region.free md ops listed i=true) (hr:(Region.ready md ops listed).contains i=true) (hz:waitsB md ops i Z=true) (hu:unlistedB Z listed=true)
  (hQ:∀ c a w,Q (.panic c) (a.put oi.dst v) w→Q (.panic c) a w) (hy:YieldsIf P ops S oi v a) (hS:S w)
  (h:wpAnyZ P md ops Q S Z fuel (listed.setIfInBounds i true) (a.put oi.dst v) w):wpAnyZ P md ops Q S Z (fuel+1) listed a w :=
 wpAnyZ_first hi (Region.noSelect_spec hs) hQ hz fuel listed a w (Region.free_spec hi hf) (by simpa using hr) hy (unlisted_iff.1 hu) hS h

theorem unlisted_back {Z:List Nat} {listed:Array Bool} {i:Nat} (h:Unlisted Z (listed.setIfInBounds i true)):Unlisted Z listed:=fun s hs=>by
 by_cases e:i=s
 ·subst e
  have:=h i hs
  rcases Nat.lt_or_ge i listed.size with h' | h'
  ·simp [h'] at this
  ·simp at this
 ·have:=h s hs
  rwa [getD_set_ne true e] at this
theorem wpAnyZ_firstP {i:Nat} {oi:Oper} {v:Value} (hi:ops[i]?=some oi) (hsel:∀ (j:Nat) (o:Oper) cs b,ops[j]?=some o→o.op≠.select cs b)
  (hQ:∀ c a w,Q (.panic c) (a.put oi.dst v) w→Q (.panic c) a w) (hiZ:i∉Z) :
  ∀ (fuel:Nat) (listed:Array Bool) (a:Act) (w:World),
   (∀ j oj,ops[j]?=some oj→j≠i→listed.getD j true=false→(∀ e∈oj.after,Region.binds md e=true→e.on≠i)→oi.apart ops oj=true) →
   i∈Region.ready md ops listed→YieldsIf P ops (fun _=>True) oi v a→(Unlisted Z listed→S w) →
   wpAnyZ P md ops Q S Z fuel (listed.setIfInBounds i true) (a.put oi.dst v) w→wpAnyZ P md ops Q S Z (fuel+1) listed a w:=by
 intro fuel
 induction fuel with
 | zero =>
  intro listed a w _ hr hy hS H
  refine ⟨fun h=>(by rw [h] at hr;cases hr),fun j hj=>?_⟩
  by_cases hji:j=i
  ·subst hji;exact hy.wpOp hi trivial ⟨fun hu=>hS (unlisted_back hu),H⟩
  ·have:=ready_mono hj hji
   rw [H.1] at this
   cases this
 | succ fuel ih =>
  intro listed a w hfree hr hy hS H
  refine ⟨fun h=>(by rw [h] at hr;cases hr),fun j hj=>?_⟩
  by_cases hji:j=i
  ·subst hji;exact hy.wpOp hi trivial ⟨fun hu=>hS (unlisted_back hu),H⟩
  ·have h1:=H.2 j (ready_mono hj hji)
   obtain ⟨hjun,oj,hoj,hall⟩:=mem_ready.1 hj
   have hnot:∀ e∈oj.after,Region.binds md e=true→e.on≠i:=fun e he hb heq=>by
    have h1:=hall e he hb
    have h0:=(mem_ready.1 hr).1
    rw [heq] at h1
    rcases Nat.lt_or_ge i listed.size with h' | h'
    ·simp [h'] at h0 h1;rw [h0] at h1;cases h1
    ·simp [Array.getElem?_eq_none h'] at h1
   have h2:=wpOp_putIf hoj (hfree j oj hoj hji hjun hnot) (fun cs b=>hsel i oi cs b hi) (fun cs b=>hsel j oj cs b hoj) hQ hy h1
   have hfree' : ∀ k ok,ops[k]?=some ok→k≠i→(listed.setIfInBounds j true).getD k true=false →
     (∀ e∈ok.after,Region.binds md e=true→e.on≠i)→oi.apart ops ok=true:=fun k ok hk hki hun hno=>by
    refine hfree k ok hk hki ?_ hno
    by_cases hjk:j=k
    ·subst hjk;exact hjun
    ·rw [getD_set_ne true hjk] at hun;exact hun
   refine wpOp_mono (fun a' w' h3=>?_) h2
   have hS' : Unlisted Z (listed.setIfInBounds j true)→S w':=fun hu=>h3.2.1 (by
    rw [Array.setIfInBounds_comm _ _ (Ne.symm hji)]
    exact unlisted_set hu hiZ)
   refine ⟨hS',ih (listed.setIfInBounds j true) a' w' hfree' (ready_mono hr (Ne.symm hji)) h3.1 hS' ?_⟩
   rw [Array.setIfInBounds_comm _ _ hji]
   exact h3.2.2
theorem wpAnyZ_takeP {i:Nat} {oi:Oper} {v:Value} {fuel:Nat} {listed:Array Bool} {a:Act} {w:World} (hi:ops[i]?=some oi)
  (hs:Region.noSelect ops=true) (hf:Region.free md ops listed i=true) (hr:(Region.ready md ops listed).contains i=true) (hz:Z.contains i=false)
  (hQ:∀ c a w,Q (.panic c) (a.put oi.dst v) w→Q (.panic c) a w) (hy:YieldsIf P ops (fun _=>True) oi v a) (hS:unlistedB Z listed=true→S w)
  (h:wpAnyZ P md ops Q S Z fuel (listed.setIfInBounds i true) (a.put oi.dst v) w):wpAnyZ P md ops Q S Z (fuel+1) listed a w :=
 wpAnyZ_firstP hi (Region.noSelect_spec hs) hQ (by simpa using hz) fuel listed a w (Region.free_spec hi hf) (by simpa using hr) hy (fun hu=>hS (unlisted_iff.2 hu)) h

def AllReadyZ (P:Program) (md:Region.Mode) (ops:Array Oper) (Q:Exit→Act→World→Prop) (S:World→Prop) (Z:List Nat) (fuel:Nat) (listed:Array Bool) (a:Act) (w:World) (rs:List Nat):Prop :=
 ∀ i∈rs,wpOp P ops Q i (fun a' w'=>(Unlisted Z (listed.setIfInBounds i true)→S w')∧wpAnyZ P md ops Q S Z fuel (listed.setIfInBounds i true) a' w') a w
theorem AllReadyZ.nil {fuel:Nat} {listed:Array Bool} {a:Act} {w:World} : AllReadyZ P md ops Q S Z fuel listed a w []:=fun _ h=>by cases h
theorem AllReadyZ.cons {fuel:Nat} {listed:Array Bool} {a:Act} {w:World} {i:Nat} {o:Oper} {rs:List Nat} (ho:ops[i]?=some o)
  (h:∀ K' : Act→World→Prop,Shut (∀ a w,S w→(S w→wpAnyZ P md ops Q S Z fuel (listed.setIfInBounds i true) a w)→K' a w)→if Region.wanted o (yielded ops a.tmps)=true then Oper.wp P o a w K' Q else K' (a.put o.dst undef) w)
  (hs:AllReadyZ P md ops Q S Z fuel listed a w rs):AllReadyZ P md ops Q S Z fuel listed a w (i :: rs):=fun j hj=>by
 rcases List.mem_cons.1 hj with rfl | hj
 ·exact wpOp_step ho (fun K' hK=>h K' (fun a w hS hW=>hK a w ⟨fun _=>hS,hW hS⟩))
 ·exact hs j hj
theorem AllReadyZ.last {fuel:Nat} {listed:Array Bool} {a:Act} {w:World} {i:Nat} {o:Oper} {rs:List Nat} (ho:ops[i]?=some o) (hu:unlistedB Z (listed.setIfInBounds i true)=false)
  (h:∀ K' : Act→World→Prop,Shut (∀ a w,wpAnyZ P md ops Q S Z fuel (listed.setIfInBounds i true) a w→K' a w)→if Region.wanted o (yielded ops a.tmps)=true then Oper.wp P o a w K' Q else K' (a.put o.dst undef) w)
  (hs:AllReadyZ P md ops Q S Z fuel listed a w rs):AllReadyZ P md ops Q S Z fuel listed a w (i :: rs):=fun j hj=>by
 rcases List.mem_cons.1 hj with rfl | hj
 ·exact wpOp_step ho (fun K' hK=>h K' (fun a w hW=>hK a w ⟨fun hU=>(by rw [unlisted_iff.2 hU] at hu;cases hu),hW⟩))
 ·exact hs j hj
theorem wpAnyZ_ready {rs:List Nat} {fuel:Nat} {listed:Array Bool} {a:Act} {w:World} (hr:Region.ready md ops listed=rs) (hne:rs≠[])
  (h:AllReadyZ P md ops Q S Z fuel listed a w rs):wpAnyZ P md ops Q S Z (fuel+1) listed a w:=⟨fun h0=>absurd (hr ▸ h0) hne,hr ▸ h⟩
theorem wpAnyZ_done {listed:Array Bool} {a:Act} {w:World} (hr:Region.ready md ops listed=[]) (h:Q .normal a w) :
  ∀ fuel,wpAnyZ P md ops Q S Z fuel listed a w
 | 0=>⟨hr,h⟩
 | _+1=>⟨fun _=>h,by rw [hr];simp⟩
theorem wp_region_Z {id:Nat} {a:Act} {w:World} (hm:P.follows .mixedOrders=true) (hS:S w.drew)
  (h:S w.drew→wpAnyZ P .any ops Q S Z ops.size (Array.replicate ops.size false) a w.drew):(Code.region id ops true).wp P Q a w :=
 wp_region_any hm (wpAny_of_Z _ _ _ _ (h hS))
end
end Go.Proofs.YtpejpnffcepdlaaGreatDoor.RgZ
namespace Go.Proofs.YtpejpnffcepdlaaGreatDoor.RgZ
open Go

section
variable {P:Program} {ops:Array Oper} {Q:Exit→Act→World→Prop} {md:Region.Mode} {S:World→Prop} {Z:List Nat}

theorem zP (i:Nat) {x1} {x2} {x3} {x4} {x5} {x6} {v:Value} {fuel:Nat} {listed:Array Bool} {a a' : Act} {w:World} (hi:ops[i]?=some ⟨x1,x2,x3,x4,x5,x6⟩)
  (h:wpAnyZ P md ops Q S Z fuel (listed.setIfInBounds i true) (a'.put x1 v) w)
  (ha:a=a':=by (try simp only [Act.put,List.setIfInBounds_toArray,List.set_cons_zero,List.set_cons_succ]);(try exact rfl))
  (hs:Region.noSelect ops=true:=by kernel_rfl) (hf:Region.free md ops listed i=true:=by kernel_rfl) (hr:(Region.ready md ops listed).contains i=true:=by kernel_rfl) (hz:Z.contains i=false:=by kernel_rfl)
  (hw:Region.wanted ⟨x1,x2,x3,x4,x5,x6⟩ (yielded ops a'.tmps)=true:=by rfl)
  (hv:∀ w,True→(execOp a'.eval ⟨x1,x2,x3,x4,x5,x6⟩).run P w=.ok (.value v) w:=by intro w hSw;(try dsimp only at hSw);go_simp;all_goals (try with_reducible rfl))
  (hQ:∀ c a w,Q (.panic c) (a.put x1 v) w→Q (.panic c) a w:=by exact fun _ _ _ h=>h)
  (hS:unlistedB Z listed=true→S w:=by exact fun _=>by assumption):wpAnyZ P md ops Q S Z (fuel+1) listed a w:=by
 subst ha
 exact wpAnyZ_takeP hi hs hf hr hz hQ (Or.inl ⟨hw,hv⟩) hS h
theorem zU (i:Nat) {x1} {x2} {x3} {x4} {x5} {x6} {fuel:Nat} {listed:Array Bool} {a a' : Act} {w:World} (hi:ops[i]?=some ⟨x1,x2,x3,x4,x5,x6⟩)
  (h:wpAnyZ P md ops Q S Z fuel (listed.setIfInBounds i true) (a'.put x1 undef) w)
  (ha:a=a':=by (try simp only [Act.put,List.setIfInBounds_toArray,List.set_cons_zero,List.set_cons_succ]);(try exact rfl))
  (hs:Region.noSelect ops=true:=by kernel_rfl) (hf:Region.free md ops listed i=true:=by kernel_rfl) (hr:(Region.ready md ops listed).contains i=true:=by kernel_rfl) (hz:Z.contains i=false:=by kernel_rfl)
  (hw:Region.wanted ⟨x1,x2,x3,x4,x5,x6⟩ (yielded ops a'.tmps)=false:=by rfl)
  (hQ:∀ c a w,Q (.panic c) (a.put x1 undef) w→Q (.panic c) a w:=by exact fun _ _ _ h=>h)
  (hS:unlistedB Z listed=true→S w:=by exact fun _=>by assumption):wpAnyZ P md ops Q S Z (fuel+1) listed a w:=by
 subst ha
 exact wpAnyZ_takeP hi hs hf hr hz hQ (Or.inr ⟨hw,rfl⟩) hS h
theorem zT (i:Nat) {x1} {x2} {x3} {x4} {x5} {x6} {v:Value} {fuel:Nat} {listed:Array Bool} {a a' : Act} {w:World} (hi:ops[i]?=some ⟨x1,x2,x3,x4,x5,x6⟩)
  (h:wpAnyZ P md ops Q S Z fuel (listed.setIfInBounds i true) (a'.put x1 v) w)
  (ha:a=a':=by (try simp only [Act.put,List.setIfInBounds_toArray,List.set_cons_zero,List.set_cons_succ]);(try exact rfl))
  (hs:Region.noSelect ops=true:=by kernel_rfl) (hf:Region.free md ops listed i=true:=by kernel_rfl) (hr:(Region.ready md ops listed).contains i=true:=by kernel_rfl) (hz:waitsB md ops i Z=true:=by kernel_rfl) (hu:unlistedB Z listed=true:=by kernel_rfl)
  (hw:Region.wanted ⟨x1,x2,x3,x4,x5,x6⟩ (yielded ops a'.tmps)=true:=by rfl)
  (hv:∀ w,S w→(execOp a'.eval ⟨x1,x2,x3,x4,x5,x6⟩).run P w=.ok (.value v) w:=by intro w hSw;(try dsimp only at hSw);go_simp;all_goals (try with_reducible rfl))
  (hQ:∀ c a w,Q (.panic c) (a.put x1 v) w→Q (.panic c) a w:=by exact fun _ _ _ h=>h)
  (hS:S w:=by assumption):wpAnyZ P md ops Q S Z (fuel+1) listed a w:=by
 subst ha
 exact wpAnyZ_take hi hs hf hr hz hu hQ (Or.inl ⟨hw,hv⟩) hS h
theorem zC (i:Nat) {x1} {x2} {x3} {x4} {x5} {x6} {fuel:Nat} {listed:Array Bool} {a a' : Act} {w:World} (ho:ops[i]?=some ⟨x1,x2,x3,x4,x5,x6⟩)
  (h:∀ K' : Act→World→Prop,Shut (∀ a w,S w→(S w→wpAnyZ P md ops Q S Z fuel (listed.setIfInBounds i true) a w)→K' a w)→if Region.wanted ⟨x1,x2,x3,x4,x5,x6⟩ (yielded ops a'.tmps)=true then Oper.wp P ⟨x1,x2,x3,x4,x5,x6⟩ a' w K' Q else K' (a'.put x1 undef) w)
  (ha:a=a':=by (try simp only [Act.put,List.setIfInBounds_toArray,List.set_cons_zero,List.set_cons_succ]);(try exact rfl))
  (hr:Region.ready md ops listed=[i]:=by kernel_rfl):wpAnyZ P md ops Q S Z (fuel+1) listed a w:=by
 subst ha
 exact wpAnyZ_ready hr (by simp) (AllReadyZ.cons ho h AllReadyZ.nil)
theorem zL (i:Nat) {x1} {x2} {x3} {x4} {x5} {x6} {fuel:Nat} {listed:Array Bool} {a a' : Act} {w:World} (ho:ops[i]?=some ⟨x1,x2,x3,x4,x5,x6⟩)
  (h:∀ K' : Act→World→Prop,Shut (∀ a w,wpAnyZ P md ops Q S Z fuel (listed.setIfInBounds i true) a w→K' a w)→if Region.wanted ⟨x1,x2,x3,x4,x5,x6⟩ (yielded ops a'.tmps)=true then Oper.wp P ⟨x1,x2,x3,x4,x5,x6⟩ a' w K' Q else K' (a'.put x1 undef) w)
  (ha:a=a':=by (try simp only [Act.put,List.setIfInBounds_toArray,List.set_cons_zero,List.set_cons_succ]);(try exact rfl))
  (hr:Region.ready md ops listed=[i]:=by kernel_rfl) (hu:unlistedB Z (listed.setIfInBounds i true)=false:=by kernel_rfl):wpAnyZ P md ops Q S Z (fuel+1) listed a w:=by
 subst ha
 exact wpAnyZ_ready hr (by simp) (AllReadyZ.last ho hu h AllReadyZ.nil)
theorem zH (i:Nat) {x1} {x2} {x3} {x4} {x5} {x6} {v:Value} {fuel:Nat} {listed:Array Bool} {a a' : Act} {w:World} (hi:ops[i]?=some ⟨x1,x2,x3,x4,x5,x6⟩)
  (h:wpAnyH P md ops Q S fuel (listed.setIfInBounds i true) (a'.put x1 v) w)
  (ha:a=a':=by (try simp only [Act.put,List.setIfInBounds_toArray,List.set_cons_zero,List.set_cons_succ]);(try exact rfl))
  (hs:Region.noSelect ops=true:=by kernel_rfl) (hf:Region.free md ops listed i=true:=by kernel_rfl) (hr:(Region.ready md ops listed).contains i=true:=by kernel_rfl)
  (hw:Region.wanted ⟨x1,x2,x3,x4,x5,x6⟩ (yielded ops a'.tmps)=true:=by rfl)
  (hv:∀ w,S w→(execOp a'.eval ⟨x1,x2,x3,x4,x5,x6⟩).run P w=.ok (.value v) w:=by intro w hSw;(try dsimp only at hSw);go_simp;all_goals (try with_reducible rfl))
  (hQ:∀ c a w,Q (.panic c) (a.put x1 v) w→Q (.panic c) a w:=by exact fun _ _ _ h=>h)
  (hS:S w:=by assumption):wpAnyH P md ops Q S (fuel+1) listed a w:=by
 subst ha
 exact wpAnyH_take hi hs hf hr hQ (Or.inl ⟨hw,hv⟩) hS h
end
end Go.Proofs.YtpejpnffcepdlaaGreatDoor.RgZ
