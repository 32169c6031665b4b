/- Walk over num.parts and num.Read. Walk over num.Read: it answers 'rd'. Walk over num.Small: it answers 'sm'. -/
import Derived.Test.YtpejpnffcepdlaaGreatDoorVNumD
import Derived.Deep.LoopGhost
import Derived.BigRegion
import Derived.Test.YtpejpnffcepdlaaGreatDoorVNumRPToNumS
set_option maxRecDepth 100000
set_option maxHeartbeats 16000000
namespace Go.Proofs.YtpejpnffcepdlaaGreatDoor.NumE
open Go.RowKit Go.Lib NumP NumQ NumD

def bel (s:ByteArray):Bool:=decide (atOf s.data.toList=1)
def digs (s:ByteArray):ByteArray:=if bel s=true then s.extract 1 s.size else s
theorem bel_iff (s:ByteArray):bel s=true↔∃ h0:0 < s.size,s[0].toNat=45:=by
 have hl:s.data.toList.length=s.size:=Array.length_toList
 unfold bel
 rw [decide_eq_true_iff]
 unfold atOf
 by_cases h0:0 < s.size
 ·rw [toList_cons h0]
  simp [h0]
 ·have he:s.data.toList=[]:=List.eq_nil_of_length_eq_zero (by omega)
  rw [he];simp [h0]
theorem digs_list (s:ByteArray):(digs s).data.toList=s.data.toList.drop (atOf s.data.toList):=by
 have hl:s.data.toList.length=s.size:=Array.length_toList
 unfold digs bel
 by_cases h:atOf s.data.toList=1
 ·rw [h,if_pos (by simp),extract_data,List.take_of_length_le]
  rw [List.length_drop];omega
 ·have:atOf s.data.toList=0:=by have:=atOf_le s.data.toList;omega
  rw [if_neg (by simp [h]),this,List.drop_zero]
theorem digs_size (s:ByteArray):(digs s).size≤s.size:=by
 have h:(digs s).data.toList.length=(digs s).size:=Array.length_toList
 have hl:s.data.toList.length=s.size:=Array.length_toList
 rw [digs_list,List.length_drop] at h;omega

theorem cut_any (s:ByteArray) (hs:s.size≤9223372036854775807) (w:World) :
  Calls Tryz.prog 233 #[.string s,.string ⟨#[45]⟩] w fun e w'=>e=.returned (.tuple #[.string (digs s),.bool (bel s)])∧w=w':=by
 by_cases h:bel s=true
 ·obtain ⟨h0,h45⟩:=(bel_iff s).1 h
  have hd:digs s=s.extract 1 s.size:=by unfold digs;rw [if_pos h]
  rw [hd,h]
  exact cut_yes s hs h0 h45 w
 ·have hn:¬ ∃ h0:0 < s.size,s[0].toNat=45:=fun e=>h ((bel_iff s).2 e)
  have hd:digs s=s:=by unfold digs;rw [if_neg h]
  have hb:bel s=false:=by simpa using h
  rw [hd,hb]
  exact cut_no s hs hn w

def Well (l:List UInt8) (below:Bool):Prop:=begB l below=true∧(∀ c∈l,isDig c=true)∧val l≤most below

def PartsPost (l:List UInt8) (below:Bool) (w:World) (e:Ending) (w' : World):Prop :=
 ((Well l below∧e=.returned (.tuple #[.bool below,.int .u64 (val l),.int .i64 0]))∨(¬ Well l below∧e=.returned (.tuple #[.bool false,.int .u64 0,.int .i64 10])))∧Below w.heap.size w w'

theorem val_append_le (a b:List UInt8):val a≤val (a++b):=by
 suffices H:∀ (n:Nat) (b:List UInt8),b.length=n→val a≤val (a++b) from H _ b rfl
 intro n
 induction n with
 | zero=>intro b h;rw [List.length_eq_zero_iff.1 h,List.append_nil];exact Nat.le_refl _
 | succ n ih =>
  intro b h1
  have h2:b≠[]:=by intro e;subst e;simp at h1
  have hs:b.dropLast++[b.getLast h2]=b:=List.dropLast_concat_getLast h2
  generalize hp:b.dropLast=p at hs
  generalize hq:b.getLast h2=q at hs
  subst hs
  have:=ih p (by simpa using h1)
  rw [← List.append_assoc,val_snoc];omega
theorem val_take_le (l:List UInt8) (k:Nat):val (l.take k)≤val l:=by
 have:=val_append_le (l.take k) (l.drop k)
 rwa [List.take_append_drop] at this
theorem take_snoc {l:List UInt8} {k:Nat} (h:k < l.length):l.take (k+1)=l.take k++[l.getD k 0]:=by
 rw [List.take_succ_eq_append_getElem h]
 simp [List.getD_eq_getElem?_getD,List.getElem?_eq_getElem h]
theorem ill_dig {l:List UInt8} {bl:Bool} {k:Nat} (h:k < l.length) (hd:isDig (l.getD k 0)=false):¬ Well l bl:=by
 intro ⟨_,h2,_⟩
 have:=h2 (l.getD k 0) (by
  rw [List.getD_eq_getElem?_getD,List.getElem?_eq_getElem h];exact List.getElem_mem h)
 rw [hd] at this;cases this
theorem ill_over {l:List UInt8} {bl:Bool} {k:Nat} (h:k < l.length) (ho:most bl < 10 * val (l.take k)+((l.getD k 0).toNat - 48)):¬ Well l bl:=by
 intro ⟨_,_,h3⟩
 have:=val_take_le l (k+1)
 rw [take_snoc h,val_snoc] at this
 omega

theorem cell_iterAt (w:World) (k:Nat) (s:ByteArray) (p:Nat) (a:Addr) (h:a.block≠k):(w.iterAt k s p).cell? a=w.cell? a:=by
 unfold World.cell?;rw [iterAt_other _ _ _ _ _ h]
theorem frozen_iterAt (w:World) (k:Nat) (s:ByteArray) (p:Nat) (a:Addr) (h:a.block≠k):(w.iterAt k s p).frozen? a=w.frozen? a:=by
 unfold World.frozen?;rw [iterAt_other _ _ _ _ _ h]

structure PEnd (w:World) (bl bg:Bool) (v:Nat) (wr:World):Prop where
 c0:wr.cell? ⟨w.heap.size,0,none⟩=some (.bool bl)
 c1:wr.cell? ⟨w.heap.size+1,0,none⟩=some (.int .u64 v)
 c2:wr.cell? ⟨w.heap.size+1+1,0,none⟩=some (.int .i64 0)
 c3:wr.cell? ⟨w.heap.size+1+1+1,0,none⟩=some (.bool bg)
 f0:wr.frozen? ⟨w.heap.size,0,none⟩=false
 f1:wr.frozen? ⟨w.heap.size+1,0,none⟩=false
 f2:wr.frozen? ⟨w.heap.size+1+1,0,none⟩=false
 f3:wr.frozen? ⟨w.heap.size+1+1+1,0,none⟩=false
 be:Below w.heap.size w wr
theorem PEnd.iter {w:World} {bl bg:Bool} {v:Nat} {wr:World} (h:PEnd w bl bg v wr) (t:ByteArray) (p:Nat):PEnd w bl bg v (wr.iterAt (w.heap.size+1+1+1+1) t p) :=
 ⟨(cell_iterAt _ _ _ _ _ (by simp;omega)).trans h.c0,(cell_iterAt _ _ _ _ _ (by simp)).trans h.c1,(cell_iterAt _ _ _ _ _ (by simp)).trans h.c2,(cell_iterAt _ _ _ _ _ (by simp)).trans h.c3,
  (frozen_iterAt _ _ _ _ _ (by simp;omega)).trans h.f0,(frozen_iterAt _ _ _ _ _ (by simp)).trans h.f1,(frozen_iterAt _ _ _ _ _ (by simp)).trans h.f2,(frozen_iterAt _ _ _ _ _ (by simp)).trans h.f3,
  below_iterAt h.be (by omega) t p⟩
theorem PEnd.ill {w:World} {bl bg:Bool} {v:Nat} {wr:World} (h:PEnd w bl bg v wr):PEnd w bl false v (wr.setCell ⟨w.heap.size+1+1+1,0,none⟩ (.bool false)) :=
 ⟨(World.cell?_setCell_other wr _ _ _ (by simp)).trans h.c0,(World.cell?_setCell_other wr _ _ _ (by simp)).trans h.c1,(World.cell?_setCell_other wr _ _ _ (by simp)).trans h.c2,World.cell?_setCell_same wr _ _ h.c3,
  by rw [World.frozen?_setCell];exact h.f0,by rw [World.frozen?_setCell];exact h.f1,by rw [World.frozen?_setCell];exact h.f2,by rw [World.frozen?_setCell];exact h.f3,h.be.setCell (by simp;try omega) _⟩
theorem PEnd.set {w:World} {bl bg:Bool} {v:Nat} {wr:World} (h:PEnd w bl bg v wr) (u:Nat):PEnd w bl bg u (wr.setCell ⟨w.heap.size+1,0,none⟩ (.int .u64 u)) :=
 ⟨(World.cell?_setCell_other wr _ _ _ (by simp)).trans h.c0,World.cell?_setCell_same wr _ _ h.c1,(World.cell?_setCell_other wr _ _ _ (by simp)).trans h.c2,(World.cell?_setCell_other wr _ _ _ (by simp)).trans h.c3,
  by rw [World.frozen?_setCell];exact h.f0,by rw [World.frozen?_setCell];exact h.f1,by rw [World.frozen?_setCell];exact h.f2,by rw [World.frozen?_setCell];exact h.f3,h.be.setCell (by simp;try omega) _⟩

theorem PEnd.tail {w:World} {bl bg:Bool} {v:Nat} {wr:World} (h:PEnd w bl bg v wr) :
  PEnd w bl bg v (((wr.setCell ⟨w.heap.size,0,none⟩ (.bool bl)).setCell ⟨w.heap.size+1,0,none⟩ (.int .u64 v)).setCell ⟨w.heap.size+1+1,0,none⟩ (.int .i64 0)).drew:=by
 have h1:PEnd w bl bg v (wr.setCell ⟨w.heap.size,0,none⟩ (.bool bl)) :=
  ⟨World.cell?_setCell_same wr _ _ h.c0,(World.cell?_setCell_other wr _ _ _ (by simp)).trans h.c1,(World.cell?_setCell_other wr _ _ _ (by simp;try omega)).trans h.c2,(World.cell?_setCell_other wr _ _ _ (by simp;try omega)).trans h.c3,
   by rw [World.frozen?_setCell];exact h.f0,by rw [World.frozen?_setCell];exact h.f1,by rw [World.frozen?_setCell];exact h.f2,by rw [World.frozen?_setCell];exact h.f3,h.be.setCell (by simp) _⟩
 have h2:=h1.set v
 generalize (wr.setCell ⟨w.heap.size,0,none⟩ (.bool bl)).setCell ⟨w.heap.size+1,0,none⟩ (.int .u64 v)=wx at h2
 have h3:PEnd w bl bg v (wx.setCell ⟨w.heap.size+1+1,0,none⟩ (.int .i64 0)) :=
  ⟨(World.cell?_setCell_other wx _ _ _ (by simp;try omega)).trans h2.c0,(World.cell?_setCell_other wx _ _ _ (by simp)).trans h2.c1,World.cell?_setCell_same wx _ _ h2.c2,(World.cell?_setCell_other wx _ _ _ (by simp)).trans h2.c3,
   by rw [World.frozen?_setCell];exact h2.f0,by rw [World.frozen?_setCell];exact h2.f1,by rw [World.frozen?_setCell];exact h2.f2,by rw [World.frozen?_setCell];exact h2.f3,h2.be.setCell (by simp;try omega) _⟩
 exact ⟨h3.c0,h3.c1,h3.c2,h3.c3,h3.f0,h3.f1,h3.f2,h3.f3,h3.be.drew⟩

theorem PEnd.over {w:World} {bl bg:Bool} {v:Nat} {wr:World} (h:PEnd w bl bg v wr) :
  ∃ w3,w3=((wr.setCell ⟨w.heap.size,0,none⟩ (.bool false)).setCell ⟨w.heap.size+1,0,none⟩ (.int .u64 0)).setCell ⟨w.heap.size+1+1,0,none⟩ (.int .i64 10) ∧
   w3.cell? ⟨w.heap.size,0,none⟩=some (.bool false)∧w3.cell? ⟨w.heap.size+1,0,none⟩=some (.int .u64 0)∧w3.cell? ⟨w.heap.size+1+1,0,none⟩=some (.int .i64 10)∧Below w.heap.size w w3:=by
 refine ⟨_,rfl,?_,?_,?_,((h.be.setCell (by simp) _).setCell (by simp) _).setCell (by simp;try omega) _⟩
 ·rw [World.cell?_setCell_other _ _ _ _ (by simp;try omega),World.cell?_setCell_other _ _ _ _ (by simp),World.cell?_setCell_same wr _ _ h.c0]
 ·rw [World.cell?_setCell_other _ _ _ _ (by simp),World.cell?_setCell_same _ _ _ ((World.cell?_setCell_other wr _ _ _ (by simp)).trans h.c1)]
 ·exact World.cell?_setCell_same _ _ _ ((World.cell?_setCell_other _ _ _ _ (by simp)).trans ((World.cell?_setCell_other wr _ _ _ (by simp;try omega)).trans h.c2))

structure PRel (w:World) (t:ByteArray) (bl bg:Bool) (pos:Nat) (wr:World):Prop where
 le:pos≤t.size
 it:wr.heap[w.heap.size+1+1+1+1]?=some (.stringIter t pos)
 en:PEnd w bl bg (val (t.data.toList.take pos)) wr
 dig:∀ c∈t.data.toList.take pos,isDig c=true
 mo:val (t.data.toList.take pos)≤most bl

theorem PRel.step {w:World} {t:ByteArray} {bl bg:Bool} {pos:Nat} {wr:World} (h:PRel w t bl bg pos wr) (hl:t.data.toList.length=t.size) (hp:pos < t.size)
  (hd:isDig (t.data.toList.getD pos 0)=true) (hm:10 * val (t.data.toList.take pos)+((t.data.toList.getD pos 0).toNat - 48)≤most bl) :
  PRel w t bl bg (pos+1) ((wr.iterAt (w.heap.size+1+1+1+1) t (pos+1)).setCell ⟨w.heap.size+1,0,none⟩ (.int .u64 ((10 * val (t.data.toList.take pos)+((t.data.toList.getD pos 0).toNat - 48):Nat):Int))):=by
 refine ⟨by omega,?_,?_,?_,?_⟩
 ·rw [Below.heap_setCell _ _ _ _ (by simp;try omega)]
  exact iterAt_heap _ _ _ _ _ h.it
 ·rw [take_snoc (by omega),val_snoc]
  exact (h.en.iter t (pos+1)).set _
 ·rw [take_snoc (by omega)]
  intro c hc
  rcases List.mem_append.1 hc with hc | hc
  ·exact h.dig c hc
  ·rw [List.mem_singleton.1 hc];exact hd
 ·rw [take_snoc (by omega),val_snoc];exact hm

theorem PRel.start (w:World) (t:ByteArray) (bl bg:Bool) (a b c d:TypeId) :
  PRel w t bl bg 0 (((((w.alloc (Obj.cells #[Value.bool bl] a)).alloc (Obj.cells #[Value.int IntKind.u64 0] b)).alloc (Obj.cells #[Value.int IntKind.i64 0] c)).alloc (Obj.cells #[Value.bool bg] d)).iter t 0):=by
 have hit:=World.iter_heap ((((w.alloc (Obj.cells #[Value.bool bl] a)).alloc (Obj.cells #[Value.int IntKind.u64 0] b)).alloc (Obj.cells #[Value.int IntKind.i64 0] c)).alloc (Obj.cells #[Value.bool bg] d)) t 0
 refine ⟨Nat.zero_le _,by simpa using hit,⟨?_,?_,?_,?_,?_,?_,?_,?_,?_⟩,by simp,by simp [val_nil]⟩
 ·simp [go_sem,World.iter]
 ·simp [go_sem,World.iter,val_nil]
 ·simp [go_sem,World.iter]
 ·simp [go_sem,World.iter]
 ·simp [go_sem,World.iter]
 ·simp [go_sem,World.iter]
 ·simp [go_sem,World.iter]
 ·simp [go_sem,World.iter]
 ·exact (((((Below.refl _ _).alloc (Nat.le_refl _) _).alloc (by simp) _).alloc (by simp;omega) _).alloc (by simp;omega) _).alloc (by simp;omega) _

theorem parts_calls (s:ByteArray) (hs:s.size≤9223372036854775807) (w:World) :
  Calls Tryz.prog 223 #[.string s] w (PartsPost (digs s).data.toList (bel s) w):=by
 have hmf:∀ (fn:Fn) (first cap:Array Value) (w:World),(Instr.makeFunc fn first cap).run Tryz.prog w=.ok (.func fn first cap) w:=fun _ _ _ _=>rfl
 have hts:(digs s).size≤9223372036854775807:=Nat.le_trans (digs_size s) hs
 have HC:=hid (cut_any s hs)
 generalize digs s=t at *
 generalize bel s=bl at *
 have hl:t.data.toList.length=t.size:=Array.length_toList
 have HL:=hid hl
 clear hl
 go_enter_defers Tryz.func223,Tryz.ntmps223
 go_wp2_with fail
 go_step3
 go_wp2_with fail
 refine (HC.out _).mono ?_
 rintro e w1 ⟨rfl,rfl⟩
 go_wp2_with fail
 refine (begins_calls t hts bl _).mono ?_
 rintro e w1 ⟨rfl,rfl⟩
 generalize hbg:begB t.data.toList bl=bg at *
 have HB:=hid hbg
 clear hbg
 go_wp2_with fail
 refine (greatest_calls bl _).mono ?_
 rintro e w1 ⟨rfl,rfl⟩
 have hmo:most bl≤9223372036854775808:=by unfold most;split<;>omega
 have hmo2:9223372036854775807≤most bl:=by unfold most;split<;>omega
 go_wp2_with fail
 go_step3
 go_wp2_with fail
 go_loopg [9] t.size (fun g _c wr=>∃ pos,pos+g=t.size∧PRel w t bl bg pos wr)
 case atStart =>
  exact ⟨0,by omega,PRel.start _ _ _ _ _ _ _ _⟩
 case round =>
  obtain ⟨pos,hpos,hr⟩:=hrel
  have hle:=hr.le
  by_cases hlt:pos < t.size
  ·have hlt2:pos < t.data.toList.length:=by rw [HL.out];exact hlt
   have hget:t.data.toList.getD pos 0=t[pos]:=by
    rw [List.getD_eq_getElem?_getD,List.getElem?_eq_getElem hlt2];rfl
   have hmo3:=hr.mo
   have hb:=hr.en.be
   by_cases hgood:isDig t[pos]=true∧10 * val (t.data.toList.take pos)+(t[pos].toNat - 48)≤most bl
   ·obtain ⟨hg1,hg2⟩:=hgood
    have hst:=hr.step HL.out hlt (by rw [hget];exact hg1) (by rw [hget];exact hg2)
    rw [hget] at hst
    obtain ⟨d1,d2⟩:=(isDig_iff _).1 hg1
    have hnx:=fun ty=>run_next_ascii_at (P:=Tryz.prog) wr (w.heap.size+1+1+1+1) t pos ty hr.it hlt (by omega)
    have hi:=hr.en.iter t (pos+1)
    generalize wr.iterAt (w.heap.size+1+1+1+1) t (pos+1)=wi at *
    have HS:=hid hst
    have c1:=hi.c1;have f1:=hi.f1
    generalize val (t.data.toList.take pos)=v at *
    clear hr hi hst hget hg1
    have hle2:¬ ((most bl:Int) - ((t[pos].toNat:Int) - 48)) / 10 < (v:Int):=by omega
    go_wp2
    go_roundg (gk - 1)
    case measure=>omega
    case rel=>exact ⟨pos+1,by omega,(show (((10 * v+(t[pos].toNat - 48):Nat):Int))=(v:Int) * 10+((t[pos].toNat:Int) - 48) by omega) ▸ HS.out⟩
   ·by_cases hdg:isDig t[pos]=true
    ·obtain ⟨d1,d2⟩:=(isDig_iff _).1 hdg
     have hov:most bl < 10 * val (t.data.toList.take pos)+(t[pos].toNat - 48):=by
      have:¬ 10 * val (t.data.toList.take pos)+(t[pos].toNat - 48)≤most bl:=fun h=>hgood ⟨hdg,h⟩
      omega
     have HI:=hid (ill_over (bl:=bl) hlt2 (by rw [hget];exact hov))
     have hnx:=fun ty=>run_next_ascii_at (P:=Tryz.prog) wr (w.heap.size+1+1+1+1) t pos ty hr.it hlt (by omega)
     have hi:=hr.en.iter t (pos+1)
     generalize wr.iterAt (w.heap.size+1+1+1+1) t (pos+1)=wi at *
     generalize val (t.data.toList.take pos)=v at *
     have hj:=hi.ill
     have HJ:=hid hj
     have c0:=hi.c0;have c1:=hi.c1;have c2:=hi.c2;have c3:=hi.c3;have f0:=hi.f0;have f1:=hi.f1;have f2:=hi.f2;have f3:=hi.f3
     clear hr hi hj hget hgood hdg
     have hle2:((most bl:Int) - ((t[pos].toNat:Int) - 48)) / 10 < (v:Int):=by omega
     go_wp2
     go_region
     go_wp2
     rw [Exit.noGoto_ret]
     have HT:=hid (HJ.out).tail
     clear c0 c1 c2 c3 f0 f1 f2 f3 hnx
     revert HT
     generalize ((((wi.setCell ⟨w.heap.size+1+1+1,0,none⟩ (.bool false)).setCell ⟨w.heap.size,0,none⟩ (.bool bl)).setCell ⟨w.heap.size+1,0,none⟩ (.int .u64 (v))).setCell ⟨w.heap.size+1+1,0,none⟩ (.int .i64 0)).drew=w2
     intro HT
     have k0:=HT.out.c0;have k1:=HT.out.c1;have k2:=HT.out.c2;have k3:=HT.out.c3
     refine leaves_cons (f:=235) (args:=#[.pointer (some ⟨w.heap.size+1+1+1,0,none⟩),.pointer (some ⟨w.heap.size,0,none⟩),.pointer (some ⟨w.heap.size+1,0,none⟩),.pointer (some ⟨w.heap.size+1+1,0,none⟩)]) (by simp) (by simp [go_sem]) ?_
     refine (closure_ill w.heap.size _ _ _ .returning _ k3 k0 k1 k2 HT.out.f0 HT.out.f1 HT.out.f2).mono ?_
     rintro e u' w'' ⟨rfl,rfl,hw''⟩
     obtain ⟨w3,hw3,m0,m1,m2,m3⟩:=HT.out.over
     rw [← hw3] at hw''
     subst hw''
     clear hw3 k0 k1 k2 k3
     simp [Leaves,settle,results,Tryz.results223,go_sem,m0,m1,m2]
     exact ⟨.inr ⟨HI.out,rfl⟩,m3⟩
    ·have hdg1:isDig t[pos]=false:=by simpa using hdg
     have HI:=hid (ill_dig (bl:=bl) hlt2 (by rw [hget];exact hdg1))
     have hnx:=fun ty=>run_next_any_at (P:=Tryz.prog) wr (w.heap.size+1+1+1+1) t pos ty hr.it hlt
     have hrune:(Utf8.decode t pos).1 < 48∨57 < (Utf8.decode t pos).1:=by
      by_cases h128:t[pos].toNat < 128
      ·rw [decode_ascii t pos hlt h128]
       exact (isDig_false _).1 hdg1
      ·have:=(decode_high t pos hlt (by omega)).1
       omega
     have hmax:=decode_le t pos
     have hi:=hr.en.iter t (pos+(Utf8.decode t pos).2)
     generalize wr.iterAt (w.heap.size+1+1+1+1) t (pos+(Utf8.decode t pos).2)=wi at *
     generalize (Utf8.decode t pos).1=r at *
     generalize val (t.data.toList.take pos)=v at *
     have hj:=hi.ill
     have HJ:=hid hj
     have c0:=hi.c0;have c1:=hi.c1;have c2:=hi.c2;have c3:=hi.c3;have f0:=hi.f0;have f1:=hi.f1;have f2:=hi.f2;have f3:=hi.f3
     clear hr hi hj hget hgood hdg hdg1 hmo3
     by_cases hr48:r < 48
     ·clear hrune
      go_wp2
      go_region
      go_wp2
      rw [Exit.noGoto_ret]
      have HT:=hid (HJ.out).tail
      clear c0 c1 c2 c3 f0 f1 f2 f3 hnx
      revert HT
      generalize ((((wi.setCell ⟨w.heap.size+1+1+1,0,none⟩ (.bool false)).setCell ⟨w.heap.size,0,none⟩ (.bool bl)).setCell ⟨w.heap.size+1,0,none⟩ (.int .u64 (v))).setCell ⟨w.heap.size+1+1,0,none⟩ (.int .i64 0)).drew=w2
      intro HT
      have k0:=HT.out.c0;have k1:=HT.out.c1;have k2:=HT.out.c2;have k3:=HT.out.c3
      refine leaves_cons (f:=235) (args:=#[.pointer (some ⟨w.heap.size+1+1+1,0,none⟩),.pointer (some ⟨w.heap.size,0,none⟩),.pointer (some ⟨w.heap.size+1,0,none⟩),.pointer (some ⟨w.heap.size+1+1,0,none⟩)]) (by simp) (by simp [go_sem]) ?_
      refine (closure_ill w.heap.size _ _ _ .returning _ k3 k0 k1 k2 HT.out.f0 HT.out.f1 HT.out.f2).mono ?_
      rintro e u' w'' ⟨rfl,rfl,hw''⟩
      obtain ⟨w3,hw3,m0,m1,m2,m3⟩:=HT.out.over
      rw [← hw3] at hw''
      subst hw''
      clear hw3 k0 k1 k2 k3
      simp [Leaves,settle,results,Tryz.results223,go_sem,m0,m1,m2]
      exact ⟨.inr ⟨HI.out,rfl⟩,m3⟩
     ·have h57:57 < r:=by omega
      clear hrune
      go_wp2
      go_region
      go_wp2
      rw [Exit.noGoto_ret]
      have HT:=hid (HJ.out).tail
      clear c0 c1 c2 c3 f0 f1 f2 f3 hnx
      revert HT
      generalize ((((wi.setCell ⟨w.heap.size+1+1+1,0,none⟩ (.bool false)).setCell ⟨w.heap.size,0,none⟩ (.bool bl)).setCell ⟨w.heap.size+1,0,none⟩ (.int .u64 (v))).setCell ⟨w.heap.size+1+1,0,none⟩ (.int .i64 0)).drew=w2
      intro HT
      have k0:=HT.out.c0;have k1:=HT.out.c1;have k2:=HT.out.c2;have k3:=HT.out.c3
      refine leaves_cons (f:=235) (args:=#[.pointer (some ⟨w.heap.size+1+1+1,0,none⟩),.pointer (some ⟨w.heap.size,0,none⟩),.pointer (some ⟨w.heap.size+1,0,none⟩),.pointer (some ⟨w.heap.size+1+1,0,none⟩)]) (by simp) (by simp [go_sem]) ?_
      refine (closure_ill w.heap.size _ _ _ .returning _ k3 k0 k1 k2 HT.out.f0 HT.out.f1 HT.out.f2).mono ?_
      rintro e u' w'' ⟨rfl,rfl,hw''⟩
      obtain ⟨w3,hw3,m0,m1,m2,m3⟩:=HT.out.over
      rw [← hw3] at hw''
      subst hw''
      clear hw3 k0 k1 k2 k3
      simp [Leaves,settle,results,Tryz.results223,go_sem,m0,m1,m2]
      exact ⟨.inr ⟨HI.out,rfl⟩,m3⟩
  ·have hnx:=fun ty=>run_next_end_at (P:=Tryz.prog) wr (w.heap.size+1+1+1+1) t pos ty hr.it hlt
   have hb:=hr.en.be
   have c0:=hr.en.c0;have c1:=hr.en.c1;have c2:=hr.en.c2;have f0:=hr.en.f0;have f1:=hr.en.f1;have f2:=hr.en.f2
   have e:pos=t.size:=by omega
   subst e
   have hta:t.data.toList.take t.size=t.data.toList:=List.take_of_length_le (by rw [HL.out];exact Nat.le_refl _)
   have hdi:=hr.dig
   have hmv:=hr.mo
   rw [hta] at c1 hdi hmv
   have HE:=hid (hta ▸ hr.en:PEnd w bl bg (val t.data.toList) wr)
   have HD:=hid hdi
   clear hlt hle hpos hr hta hdi
   go_wp2
   go_region
   go_wp2
   rw [Exit.noGoto_ret]
   have HT:=hid (HE.out).tail
   clear hb c0 c1 c2 f0 f1 f2 hnx
   revert HT
   generalize (((wr.setCell ⟨w.heap.size,0,none⟩ (.bool bl)).setCell ⟨w.heap.size+1,0,none⟩ (.int .u64 (val t.data.toList))).setCell ⟨w.heap.size+1+1,0,none⟩ (.int .i64 0)).drew=w2
   intro HT
   have k0:=HT.out.c0;have k1:=HT.out.c1;have k2:=HT.out.c2;have k3:=HT.out.c3
   refine leaves_cons (f:=235) (args:=#[.pointer (some ⟨w.heap.size+1+1+1,0,none⟩),.pointer (some ⟨w.heap.size,0,none⟩),.pointer (some ⟨w.heap.size+1,0,none⟩),.pointer (some ⟨w.heap.size+1+1,0,none⟩)]) (by simp) (by simp [go_sem]) ?_
   cases bg
   ·refine (closure_ill w.heap.size _ _ _ .returning _ k3 k0 k1 k2 HT.out.f0 HT.out.f1 HT.out.f2).mono ?_
    rintro e u' w'' ⟨rfl,rfl,hw''⟩
    obtain ⟨w3,hw3,m0,m1,m2,m3⟩:=HT.out.over
    rw [← hw3] at hw''
    subst hw''
    clear hw3 k0 k1 k2 k3
    simp [Leaves,settle,results,Tryz.results223,go_sem,m0,m1,m2]
    exact ⟨.inr ⟨(fun h=>by have:=HB.out;rw [h.1] at this;cases this),rfl⟩,m3⟩
   ·refine (closure_well _ _ _ _ .returning _ k3).mono ?_
    rintro e u' w'' ⟨rfl,rfl,rfl⟩
    simp [Leaves,settle,results,Tryz.results223,go_sem,k0,k1,k2]
    exact ⟨.inl ⟨⟨HB.out,HD.out,hmv⟩,rfl⟩,HT.out.be⟩
end Go.Proofs.YtpejpnffcepdlaaGreatDoor.NumE
namespace Go.Proofs.YtpejpnffcepdlaaGreatDoor.NumF
open Go.RowKit Go.Lib NumP NumQ NumD NumE NumR

theorem begB_dec {u:Nat} {bl:Bool} (h:1≤u∨bl=false):begB (decDigits u) bl=true:=by
 by_cases h0:u=0
 ·subst h0
  rw [dec_zero]
  rcases h with h | h
  ·omega
  ·rw [h];rfl
 ·obtain ⟨c,t,e,hc⟩:=dec_head u (by omega)
  rw [e]
  simp [begB,hc]

theorem rd_ill {l:List UInt8} (h:¬ Well (l.drop (atOf l)) (decide (atOf l=1))):rd l=(0,10):=by
 refine rd_none fun n hn e=>h ?_
 subst e
 have h1:=hn.1
 have h2:=hn.2
 rcases at_cases n with ⟨hs,ha,hd⟩ | ⟨hs,ha,hd⟩<;>rw [hd,ha]
 ·exact ⟨begB_dec (.inl (by omega)),dec_digs _,by rw [val_dec];simp [most];omega⟩
 ·exact ⟨begB_dec (.inr (by decide)),dec_digs _,by rw [val_dec];simp [most];omega⟩

theorem begB_lead {l:List UInt8} {bl:Bool} (h:begB l bl=true):l≠[]∧∀ c t,l=c :: t→c.toNat=48→t=[]∧bl=false:=by
 refine ⟨?_,?_⟩
 ·intro e;rw [e] at h;cases h
 ·intro c t e hc
  rw [e] at h
  simp [begB,hc] at h
  exact h

theorem well_pos {l:List UInt8} (h:Well l true):1≤val l:=by
 obtain ⟨h1,h2,_⟩:=h
 obtain ⟨hne,hz⟩:=begB_lead h1
 have hd:=dec_val _ _ rfl hne h2 (fun c t e hc=>(hz c t e hc).1)
 rcases Nat.eq_zero_or_pos (val l) with h0 | h0
 ·rw [h0,dec_zero] at hd
  have:=(hz 48 [] hd.symm (by decide)).2
  cases this
 ·exact h0
theorem neg_wrap (v:Nat) (h1:1≤v) (h2:v≤9223372036854775808):wrap64 (IntKind.u64.wrap (-(v:Int))) = -(v:Int):=by
 have e:IntKind.u64.wrap (-(v:Int))=18446744073709551616 - (v:Int):=by
  simp [IntKind.wrap,IntKind.signed,IntKind.bits];omega
 rw [e];unfold wrap64;omega

def num (l:List UInt8):Int:=if atOf l=1 then -(val (l.drop (atOf l)):Int) else (val (l.drop (atOf l)):Int)
theorem rd_well {l:List UInt8} (h:Well (l.drop (atOf l)) (decide (atOf l=1))):rd l=(num l,0):=by
 obtain ⟨h1,h2,h3⟩:=h
 obtain ⟨hne,hz⟩:=begB_lead h1
 have hd:=dec_val _ _ rfl hne h2 (fun c t e hc=>(hz c t e hc).1)
 refine rd_of ?_ ?_
 ·unfold num I64
  unfold most at h3
  by_cases ha:atOf l=1
  ·rw [if_pos ha];simp [ha] at h3 ⊢;omega
  ·rw [if_neg ha];simp [ha] at h3 ⊢;omega
 ·by_cases ha:atOf l=1
  ·have hv:1≤val (l.drop (atOf l)):=by
    rcases Nat.eq_zero_or_pos (val (l.drop (atOf l))) with h0 | h0
    ·rw [h0,dec_zero] at hd
     have:=(hz 48 [] hd.symm (by decide)).2
     simp [ha] at this
    ·exact h0
   have hn:num l = -(val (l.drop (atOf l)):Int):=by unfold num;rw [if_pos ha]
   rw [hn,itoa_ng (by omega),show (-(val (l.drop (atOf l)):Int)).natAbs=val (l.drop (atOf l)) by omega,hd,ha]
   unfold atOf at ha
   cases l with
   | nil=>simp at ha
   | cons c t =>
    simp at ha
    simp
    exact UInt8.toNat_inj.1 (by rw [ha];rfl)
  ·have ha0:atOf l=0:=by have:=atOf_le l;omega
   have hn:num l=(val (l.drop (atOf l)):Int):=by unfold num;rw [if_neg ha]
   rw [hn,itoa_nn (by omega),Int.toNat_natCast,hd,ha0,List.drop_zero]

theorem read_calls (s:ByteArray) (hs:s.size≤9223372036854775807) (w:World) :
  Calls Tryz.prog 206 #[.string s] w (RdPost s.data.toList w):=by
 have hl:s.data.toList.length=s.size:=Array.length_toList
 have HC:=hid (parts_calls s hs)
 have hdl:=digs_list s
 have hbe:bel s=decide (atOf s.data.toList=1):=rfl
 have hrw:Well (digs s).data.toList (bel s)→rd s.data.toList=(num s.data.toList,0):=fun h=>rd_well (hdl ▸ h)
 have hri:¬ Well (digs s).data.toList (bel s)→rd s.data.toList=(0,10):=fun h=>rd_ill (hdl ▸ h)
 have hnu:num s.data.toList=if bel s=true then -(val (digs s).data.toList:Int) else (val (digs s).data.toList:Int):=by
  unfold num;rw [hdl,hbe];simp
 have hmo:Well (digs s).data.toList (bel s)→val (digs s).data.toList≤most (bel s)∧(bel s=true→1≤val (digs s).data.toList):=by
  intro h
  exact ⟨h.2.2,fun hb=>well_pos (hb ▸ h)⟩
 have HW:=hid hrw;have HI:=hid hri;have HN:=hid hnu;have HM:=hid hmo
 clear hrw hri hnu hmo hdl hbe hl
 go_enter Tryz.func206,Tryz.ntmps206
 go_wp2_with fail
 refine (HC.out w).mono ?_
 rintro e w1 ⟨h | h,hb⟩
 ·obtain ⟨hw,rfl⟩:=h
  obtain ⟨m1,m2⟩:=HM.out hw
  have hre:=HW.out hw
  rw [HN.out] at hre
  generalize bel s=bl at *
  generalize val (digs s).data.toList=v at *
  have HR:=hid hre
  clear hre hw HN HW HI HM HC
  cases bl
  ·have m3:v≤9223372036854775807:=m1
   have HR2:Hid (rd s.data.toList=((v:Int),0)):=by simpa using HR
   clear HR
   go_wp2
   go_ret2
   exact ⟨by rw [HR2.out];rfl,hb⟩
  ·have m3:v≤9223372036854775808:=m1
   have m4:=m2 rfl
   have HR2:Hid (rd s.data.toList=(-(v:Int),0)):=by simpa using HR
   have HR3:Hid (rd s.data.toList=(wrap64 (IntKind.u64.wrap (-(v:Int))),0)):=by
    have e:=HR2.out
    rw [neg_wrap v m4 m3];exact e
   clear HR HR2
   go_wp2
   go_ret2
   exact ⟨by rw [HR3.out];rfl,hb⟩
 ·obtain ⟨hw,rfl⟩:=h
  have HR:=hid (HI.out hw)
  clear hw HN HW HI HM HC
  go_wp2
  go_ret2
  exact rdpost_none HR.out hb
end Go.Proofs.YtpejpnffcepdlaaGreatDoor.NumF
namespace Go.Proofs.YtpejpnffcepdlaaGreatDoor.NumG
open Go.RowKit Go.Lib NumP NumQ NumR

theorem small_calls (s:ByteArray) (hs:s.size≤9223372036854775807) (most:Int) (w:World) :
  Calls Tryz.prog 186 #[.string s,.int .i64 most] w (SmPost s.data.toList most w):=by
 by_cases hneg:most < 0
 ·have H:=hid (sm_big (l:=s.data.toList) (.inl hneg))
  go_enter Tryz.func186,Tryz.ntmps186
  go_wp2
  go_ret2
  exact ⟨by rw [H.out];rfl,Below.refl _ _⟩
 by_cases hbig:1000000 < most
 ·have H:=hid (sm_big (l:=s.data.toList) (.inr hbig))
  go_enter Tryz.func186,Tryz.ntmps186
  go_wp2
  go_ret2
  exact ⟨by rw [H.out];rfl,Below.refl _ _⟩
 have hn:¬ (most < 0∨1000000 < most):=by omega
 have HO:=hid (fun h2=>sm_ok (l:=s.data.toList) hn h2)
 have HN:=hid (fun h2=>sm_no (l:=s.data.toList) hn h2)
 clear hn
 have herr:=rd_err s.data.toList
 have HC:=hid (NumF.read_calls s hs w)
 unfold RdPost at HC
 generalize rd s.data.toList=r at *
 obtain ⟨a,b⟩:=r
 simp only at HO HN herr HC
 go_enter Tryz.func186,Tryz.ntmps186
 go_wp2_with fail
 refine HC.out.mono ?_
 rintro e w1 ⟨rfl,hb⟩
 clear HC
 rcases herr with rfl | rfl
 ·by_cases h0:a < 0
  ·have H:=hid (HN.out (by omega))
   clear HO HN
   go_wp2
   go_ret2
   exact ⟨by rw [H.out];rfl,hb⟩
  by_cases h1:most < a
  ·have H:=hid (HN.out (by omega))
   clear HO HN
   go_wp2
   go_ret2
   exact ⟨by rw [H.out];rfl,hb⟩
  ·have H:=hid (HO.out (by omega))
   clear HO HN
   go_wp2
   go_ret2
   exact ⟨by rw [H.out];rfl,hb⟩
 ·have H:=hid (HN.out (by omega))
  clear HO HN
  go_wp2
  go_ret2
  exact ⟨by rw [H.out];rfl,hb⟩

end Go.Proofs.YtpejpnffcepdlaaGreatDoor.NumG
