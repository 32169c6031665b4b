/- The reader in memory: where it stands; what a call of its methods keeps; a way out by a panic. Walks over the reader's over, word, mark, small. Walks over the reader's small, next. Walk over the reader's begins. Walk over the reader's parts; the reader is kept where a row of another type grows. Walk over the reader's number. An instruction's box with two lists that grow. -/
import Derived.Test.YtpejpnffcepdlaaGreatDoorVRdGToRdH
import Derived.Test.YtpejpnffcepdlaaGreatDoorVLxYNToRdV
import Derived.WalkKit
import Derived.WalkSmall
import Derived.WalkSpells
import Derived.WalkLawsBesides
import Derived.BigGuardPart
import Derived.Test.YtpejpnffcepdlaaGreatDoorVNumEToNumG
import Derived.BigRegion
import Derived.Deep.LoopGhost
import Derived.Test.YtpejpnffcepdlaaGreatDoorVRwH
import Derived.Test.YtpejpnffcepdlaaGreatDoorVFresh
set_option maxRecDepth 100000
set_option maxHeartbeats 16000000
namespace Go.Proofs.YtpejpnffcepdlaaGreatDoor.RcP
open Go.RowKit Go.Lib TyM TyP ShM ShP ShB IntO SetP LxM LxJ LxY RwO RdM RdN RdV RdB Aft
open LxP (LinesAt StrsAt)

structure Kept (E:List Nat) (w w' : World):Prop where
 os:w'.os=w.os
 tape:w'.tape=w.tape
 output:w'.output=w.output
 size:w.heap.size≤w'.heap.size
 block:∀ k,k < w.heap.size→k∉E→w'.heap[k]?=w.heap[k]?
theorem Kept.refl (E:List Nat) (w:World):Kept E w w:=⟨rfl,rfl,rfl,Nat.le_refl _,fun _ _ _=>rfl⟩
theorem Kept.trans {E:List Nat} {a b c:World} (h:Kept E a b) (k:Kept E b c):Kept E a c :=
 ⟨k.os.trans h.os,k.tape.trans h.tape,k.output.trans h.output,Nat.le_trans h.size k.size,fun i hi hE=>(k.block i (Nat.lt_of_lt_of_le hi h.size) hE).trans (h.block i hi hE)⟩
theorem Kept.mono {E F:List Nat} {w w' : World} (h:Kept E w w') (hE:∀ x∈E,x∈F):Kept F w w':=⟨h.os,h.tape,h.output,h.size,fun k hk hF=>h.block k hk fun hx=>hF (hE k hx)⟩
theorem kept_below {E:List Nat} {w w' : World} (h:Below w.heap.size w w'):Kept E w w':=⟨h.os,h.tape,h.output,h.size,fun k hk _=>h.block k hk⟩
theorem Kept.go {E:List Nat} {a b c:World} (h:Kept E a b) (k:Below b.heap.size b c):Kept E a c:=h.trans (kept_below k)
theorem Kept.alloc {E:List Nat} {a w:World} (h:Kept E a w) (o:Obj):Kept E a (w.alloc o):=h.go (alloc_below w o)
theorem Kept.drew {E:List Nat} {a w:World} (h:Kept E a w):Kept E a w.drew:=⟨h.os,h.tape,h.output,h.size,h.block⟩
theorem Kept.set {E:List Nat} {a w:World} (h:Kept E a w) {b i:Nat} (hb:b∈E∨a.heap.size≤b) (u:Value):Kept E a (w.setCell ⟨b,i,none⟩ u) :=
 ⟨h.os,h.tape,h.output,by simpa [World.setCell] using h.size,fun k hk hE=>(Below.heap_setCell _ _ _ k (fun e=>by
  subst e
  rcases hb with hb | hb
  ·exact hE hb
  ·exact absurd hk (by simpa using hb))).trans (h.block k hk hE)⟩
theorem Kept.new {E:List Nat} {n:Nat} {a w:World} (h:Kept (n :: E) a w) (hn:a.heap.size≤n):Kept E a w :=
 ⟨h.os,h.tape,h.output,h.size,fun k hk hE=>h.block k hk fun hx=>by
  rcases List.mem_cons.1 hx with rfl | hx
  ·omega
  ·exact hE hx⟩
theorem Kept.below {E:List Nat} {B:Nat} {w w' : World} (h:Kept E w w') (hB:B≤w.heap.size) (hE:∀ x∈E,B≤x):Below B w w' :=
 ⟨h.os,h.tape,h.output,h.size,fun k hk=>h.block k (by omega) fun hx=>by have:=hE k hx;omega⟩
theorem Kept.heap {E:List Nat} {w w' : World} (h:Kept E w w') {b:Nat} {o:Obj} (hb:w.heap[b]?=some o) (hE:b∉E):w'.heap[b]?=some o:=(h.block b (Array.getElem?_eq_some_iff.1 hb).1 hE).trans hb
theorem Kept.cell {E:List Nat} {w w' : World} (h:Kept E w w') {a:Addr} {v:Value} (hv:w.cell? a=some v) (hE:a.block∉E):w'.cell? a=some v:=by
 have hlt:=World.block_lt_of_cell? w a hv
 exact (World.cell?_of_block (w:=w) (h.block a.block hlt hE)).trans hv
theorem Kept.grown {b:Nat} {w w' : World} (h:Kept [b] w w'):w.grownBy w' (some b):=⟨h.os,h.tape,h.output,h.size,fun k hk hne=>h.block k hk fun hx=>by
 rw [List.mem_singleton] at hx
 exact hne (by rw [hx])⟩
theorem kept_grown {b:Nat} {w w' : World} (h:w.grownBy w' (some b)):Kept [b] w w':=⟨h.os,h.tape,h.output,h.size,fun k hk hne=>h.block k hk fun hx=>hne (by
 cases hx;simp)⟩

def Fine (l:Ln):Prop:=l.length≤64∧∀ x∈l,un x≠[]∧x.size≤9223372036854775807
def FineL (L:List Ln):Prop:=L.length≤20000∧∀ l∈L,1≤l.length∧Fine l
theorem Fine.tail {x:ByteArray} {l:Ln} (h:Fine (x :: l)):Fine l:=⟨by have:=h.1;simp at this;omega,fun y hy=>h.2 y (List.mem_cons_of_mem _ hy)⟩
theorem Fine.drop {l:Ln} (h:Fine l) (k:Nat):Fine (l.drop k):=⟨by rw [List.length_drop];have:=h.1;omega,fun y hy=>h.2 y (List.mem_of_mem_drop hy)⟩
theorem FineL.tail {l:Ln} {L:List Ln} (h:FineL (l :: L)):FineL L:=⟨by have:=h.1;simp at this;omega,fun y hy=>h.2 y (List.mem_cons_of_mem _ hy)⟩
theorem FineL.drop {L:List Ln} (h:FineL L) (k:Nat):FineL (L.drop k):=⟨by rw [List.length_drop];have:=h.1;omega,fun y hy=>h.2 y (List.mem_of_mem_drop hy)⟩
theorem FineL.head {l:Ln} {L:List Ln} (h:FineL (l :: L)):1≤l.length∧Fine l:=h.2 l (List.mem_cons_self ..)
theorem fine_nil:Fine []:=⟨by simp,by simp⟩

structure Rdr (W:World) (b:Nat) (L:List Ln) (ws:Ln) (reg:Int) (tv:Value) (w:World):Prop where
 be:Below W.heap.size W w
 lo:W.heap.size≤b
 cs:∃ lv wv,w.heap[b]?=some (.cells #[lv,wv,.int .i64 reg,tv] 164 (0,0))∧LinesAt W lv L∧StrsAt W wv ws
 fl:FineL L
 fw:Fine ws
theorem Rdr.kept {W:World} {b:Nat} {L:List Ln} {ws:Ln} {reg:Int} {tv:Value} {w w' : World} {E:List Nat} (h:Rdr W b L ws reg tv w) (hk:Kept E w w') (hE:b∉E) (hB:∀ x∈E,W.heap.size≤x):Rdr W b L ws reg tv w':=by
 obtain ⟨lv,wv,h1,h2,h3⟩:=h.cs
 exact ⟨h.be.trans (hk.below h.be.size hB),h.lo,⟨lv,wv,hk.heap h1 hE,h2,h3⟩,h.fl,h.fw⟩
theorem Rdr.on {W:World} {b:Nat} {L:List Ln} {ws:Ln} {reg:Int} {tv:Value} {w w' : World} (h:Rdr W b L ws reg tv w) (hk:Below w.heap.size w w'):Rdr W b L ws reg tv w' :=
 h.kept (E:=[]) (kept_below hk) (by simp) (by simp)
theorem Rdr.lt {W:World} {b:Nat} {L:List Ln} {ws:Ln} {reg:Int} {tv:Value} {w:World} (h:Rdr W b L ws reg tv w):b < w.heap.size:=by
 obtain ⟨lv,wv,h1,_⟩:=h.cs
 exact (Array.getElem?_eq_some_iff.1 h1).1
theorem Rdr.old {W:World} {b:Nat} {L:List Ln} {ws:Ln} {reg:Int} {tv:Value} {w w' : World} (h:Rdr W b L ws reg tv w) (hk:Kept [b] w w'):Below W.heap.size W w' :=
 h.be.trans (hk.below h.be.size (by have:=h.lo;simpa using this))
theorem Rdr.facts {W:World} {b:Nat} {L:List Ln} {ws:Ln} {reg:Int} {tv:Value} {w:World} (h:Rdr W b L ws reg tv w) :
  ∃ la lc wa wc,w.cell? ⟨b,0,none⟩=some (.slice la L.length lc)∧w.cell? ⟨b,1,none⟩=some (.slice wa ws.length wc)∧w.cell? ⟨b,2,none⟩=some (.int .i64 reg)∧w.cell? ⟨b,3,none⟩=some tv∧(∀ i,w.frozen? ⟨b,i,none⟩=false) ∧
   LinesAt W (.slice la L.length lc) L∧StrsAt W (.slice wa ws.length wc) ws∧b < w.heap.size∧L.length≤20000∧ws.length≤64:=by
 obtain ⟨lv,wv,h1,h2,h3⟩:=h.cs
 obtain ⟨la,lc,rfl,_⟩:=h2.slice
 obtain ⟨wa,wc,rfl,_⟩:=h3.slice
 exact ⟨la,lc,wa,wc,cells_of h1 0 _ rfl,cells_of h1 1 _ rfl,cells_of h1 2 _ rfl,cells_of h1 3 _ rfl,(ShTB.cells_heap h1).2,h2,h3,h.lt,h.fl.1,h.fw.1⟩
theorem Rdr.words {W:World} {b:Nat} {L:List Ln} {ws ws' : Ln} {reg:Int} {tv:Value} {w:World} (h:Rdr W b L ws reg tv w) {v:Value} (hv:StrsAt W v ws') (hf:Fine ws'):Rdr W b L ws' reg tv (w.setCell ⟨b,1,none⟩ v):=by
 obtain ⟨lv,wv,h1,h2,h3⟩:=h.cs
 exact ⟨h.be.setCell (p:=⟨b,1,none⟩) h.lo v,h.lo,⟨lv,v,(ShTB.set_heap' (i:=1) v h1).trans (by simp),h2,hv⟩,h.fl,hf⟩
theorem Rdr.lines {W:World} {b:Nat} {L L' : List Ln} {ws:Ln} {reg:Int} {tv:Value} {w:World} (h:Rdr W b L ws reg tv w) {v:Value} (hv:LinesAt W v L') (hf:FineL L'):Rdr W b L' ws reg tv (w.setCell ⟨b,0,none⟩ v):=by
 obtain ⟨lv,wv,h1,h2,h3⟩:=h.cs
 exact ⟨h.be.setCell (p:=⟨b,0,none⟩) h.lo v,h.lo,⟨v,wv,(ShTB.set_heap' (i:=0) v h1).trans (by simp),hv,h3⟩,hf,h.fw⟩
theorem Rdr.regs {W:World} {b:Nat} {L:List Ln} {ws:Ln} {reg:Int} {tv:Value} {w:World} (h:Rdr W b L ws reg tv w) (q:Int):Rdr W b L ws q tv (w.setCell ⟨b,2,none⟩ (.int .i64 q)):=by
 obtain ⟨lv,wv,h1,h2,h3⟩:=h.cs
 exact ⟨h.be.setCell (p:=⟨b,2,none⟩) h.lo _,h.lo,⟨lv,wv,(ShTB.set_heap' (i:=2) _ h1).trans (by simp),h2,h3⟩,h.fl,h.fw⟩
theorem Rdr.types {W:World} {b:Nat} {L:List Ln} {ws:Ln} {reg:Int} {tv:Value} {w:World} (h:Rdr W b L ws reg tv w) (v:Value):Rdr W b L ws reg v (w.setCell ⟨b,3,none⟩ v):=by
 obtain ⟨lv,wv,h1,h2,h3⟩:=h.cs
 exact ⟨h.be.setCell (p:=⟨b,3,none⟩) h.lo _,h.lo,⟨lv,wv,(ShTB.set_heap' (i:=3) _ h1).trans (by simp),h2,h3⟩,h.fl,h.fw⟩
theorem Rdr.draw {W:World} {b:Nat} {L:List Ln} {ws:Ln} {reg:Int} {tv:Value} {w:World} (h:Rdr W b L ws reg tv w):Rdr W b L ws reg tv w.drew:=⟨h.be.drew,h.lo,h.cs,h.fl,h.fw⟩

def CH:List PanicEntry:=[{ v:=.iface 23 (.int .i64 70),recovered:=false }]
def Out (b:Nat) (w:World) (e:Ending) (w' : World):Prop:=e=.panicked CH∧Kept [b] w w'
def Goes (W:World) (b:Nat) (L:List Ln) (ws:Ln) (reg:Int) (tv v:Value) (w:World) (e:Ending) (w' : World):Prop :=
 e=.returned v∧Rdr W b L ws reg tv w'∧Kept [b] w w'

theorem must_yes (w:World):Calls Tryz.prog 106 #[.bool true] w fun e w'=>e=.returned (.tuple #[])∧w=w':=by
 go_enter Tryz.func106,Tryz.ntmps106
 go_wp2
 go_end0
 exact ⟨rfl,rfl⟩
theorem must_no (w:World):Calls Tryz.prog 106 #[.bool false] w fun e w'=>e=.panicked CH∧w=w':=by
 go_enter Tryz.func106,Tryz.ntmps106
 go_wp2
 exact ⟨rfl,rfl,rfl⟩
end Go.Proofs.YtpejpnffcepdlaaGreatDoor.RcP
namespace Go.Proofs.YtpejpnffcepdlaaGreatDoor.RcA
open Go.RowKit Go.Lib TyM TyP ShM ShP ShB IntO SetP LxM LxJ LxY RwO RdM RdN RdV RdB Aft RcP
open LxP (LinesAt StrsAt)

variable {W:World} {b:Nat} {L:List Ln} {ws:Ln} {reg:Int} {tv:Value} {w:World}

theorem over_yes (h:Rdr W b L [] reg tv w):Calls Tryz.prog 104 #[.pointer (some ⟨b,0,none⟩)] w (Goes W b L [] reg tv (.tuple #[]) w):=by
 obtain ⟨la,lc,wa,wc,c0,c1,c2,c3,hfz,hl,hw,hb,hL,hn⟩:=h.facts
 have HR:=hid h
 clear h hl hw c0 c2 c3
 go_enter Tryz.func104,Tryz.ntmps104
 go_wp2_with fail
 refine (must_yes w).mono ?_
 rintro e w1 ⟨rfl,rfl⟩
 go_wp2
 go_end0
 exact ⟨rfl,HR.out,Kept.refl _ _⟩
theorem over_no (h:Rdr W b L ws reg tv w) (h0:ws≠[]):Calls Tryz.prog 104 #[.pointer (some ⟨b,0,none⟩)] w (Out b w):=by
 obtain ⟨la,lc,wa,wc,c0,c1,c2,c3,hfz,hl,hw,hb,hL,hn⟩:=h.facts
 have hne:((ws.length:Int) == 0)=false:=by
  have:=List.length_pos_iff.2 h0
  simp;omega
 clear h hl hw c0 c2 c3 h0
 generalize ws.length=n at *
 go_enter Tryz.func104,Tryz.ntmps104
 go_wp2_with fail
 refine (must_no w).mono ?_
 rintro e w1 ⟨rfl,rfl⟩
 go_wp2
 exact ⟨rfl,rfl,Kept.refl _ _⟩

theorem word_no (h:Rdr W b L [] reg tv w):Calls Tryz.prog 149 #[.pointer (some ⟨b,0,none⟩)] w (Out b w):=by
 obtain ⟨la,lc,wa,wc,c0,c1,c2,c3,hfz,hl,hw,hb,hL,hn⟩:=h.facts
 clear h hl hw c0 c2 c3
 go_enter Tryz.func149,Tryz.ntmps149
 go_wp2_with fail
 refine (must_no w).mono ?_
 rintro e w1 ⟨rfl,rfl⟩
 go_wp2
 exact ⟨rfl,rfl,Kept.refl _ _⟩
theorem word_yes {x:ByteArray} (h:Rdr W b L (x :: ws) reg tv w):Calls Tryz.prog 149 #[.pointer (some ⟨b,0,none⟩)] w (Goes W b L ws reg tv (.string x) w):=by
 obtain ⟨la,lc,wa,wc,c0,c1,c2,c3,hfz,hl,hw,hb,hL,hn⟩:=h.facts
 obtain ⟨v1,hv1,hr1⟩:=strs_drop hw (k:=1) (by simp)
 have hv1:StrsAt W v1 ws:=hv1
 obtain ⟨a1,k1,rfl,_⟩:=hv1.slice
 obtain ⟨wb,off,rfl,d0⟩:=word_at hw 0 (by simp)
 rw [Nat.add_zero] at d0
 have d0:w.cell? ⟨wb,off,none⟩=some (.string x):=(h.be.cell (p:=⟨wb,off,none⟩) (World.block_lt_of_cell? W _ d0)).trans d0
 have hr1:∀ wx:World,(Instr.slice 158 (.slice (some ⟨wb,off,none⟩) (x :: ws).length wc) (some (.int .i64 1)) none none).run Tryz.prog wx=.ok (.slice a1 ws.length k1) wx:=hr1
 have hf1:=hfz 1
 have HS:=hid (h.words hv1 h.fw.tail)
 have HK:Hid (Kept [b] w (w.setCell ⟨b,1,none⟩ (.slice a1 ws.length k1))):=(Kept.refl [b] w).set (.inl (by simp)) _
 have h0:(0:Int) < ((x :: ws).length:Int):=by simp only [List.length_cons];omega
 have h0n:0 < (x :: ws).length:=by simp
 clear h hl hw c0 c2 c3 hfz hv1
 generalize (x :: ws).length=n at *
 go_enter Tryz.func149,Tryz.ntmps149
 go_wp2_with fail
 refine (must_yes w).mono ?_
 rintro e w1 ⟨rfl,rfl⟩
 go_wp2
 go_ret
 exact ⟨rfl,HS.out,HK.out⟩

theorem mark_no {c:UInt8} (h:Rdr W b L ws reg tv w) (hm:markC c ws=none):Calls Tryz.prog 150 #[.pointer (some ⟨b,0,none⟩),.int .u8 (c.toNat:Int)] w (Out b w):=by
 cases ws with
 | nil =>
  have HC:=hid (word_no h)
  unfold Out at HC
  clear hm h
  go_enter Tryz.func150,Tryz.ntmps150
  go_wp2_with fail
  refine HC.out.mono ?_
  rintro e w1 ⟨rfl,hk⟩
  go_wp2
  exact ⟨rfl,rfl,hk⟩
 | cons x ws =>
  rw [markC_cons] at hm
  have hq:(mkN x c).2≠0:=fun e=>by rw [if_pos e] at hm;cases hm
  have HC:=hid (word_yes h)
  have HM:=hid (fun wx=>mark_calls x (h.fw.2 x (by simp)).2 c wx)
  unfold Goes at HC
  unfold MkR at HM
  clear hm h
  generalize (mkN x c).1=q at *
  generalize (mkN x c).2=z at *
  have hz:(z == 0)=false:=by simpa using hq
  clear hq
  go_enter Tryz.func150,Tryz.ntmps150
  go_wp2_with fail
  refine HC.out.mono ?_
  rintro e w1 ⟨rfl,hr1,hk⟩
  have HK:=hid hk
  clear hr1 hk HC
  go_wp2_with fail
  refine (HM.out _).mono ?_
  rintro e w2 ⟨rfl,hb2⟩
  have HK2:=hid (HK.out.go hb2)
  clear HM hb2 HK
  go_wp2_with fail
  refine (must_no w2).mono ?_
  rintro e w3 ⟨rfl,rfl⟩
  go_wp2
  exact ⟨rfl,rfl,HK2.out⟩
theorem mark_yes {c:UInt8} {n:Int} {ws' : Ln} (h:Rdr W b L ws reg tv w) (hm:markC c ws=some (n,ws')):Calls Tryz.prog 150 #[.pointer (some ⟨b,0,none⟩),.int .u8 (c.toNat:Int)] w (Goes W b L ws' reg tv (.int .i64 n) w):=by
 cases ws with
 | nil=>cases hm
 | cons x ws =>
  rw [markC_cons] at hm
  have hq:(mkN x c).2=0:=by
   by_cases hq:(mkN x c).2=0
   ·exact hq
   ·rw [if_neg hq] at hm;cases hm
  rw [if_pos hq] at hm
  cases hm
  have HC:=hid (word_yes h)
  have HM:=hid (fun wx=>mark_calls x (h.fw.2 x (by simp)).2 c wx)
  unfold Goes at HC
  unfold MkR at HM
  rw [hq] at HM
  clear h hq
  generalize (mkN x c).1=q at *
  go_enter Tryz.func150,Tryz.ntmps150
  go_wp2_with fail
  refine HC.out.mono ?_
  rintro e w1 ⟨rfl,hr1,hk⟩
  have HK:=hid hk
  have HR:=hid hr1
  clear hr1 hk HC
  go_wp2_with fail
  refine (HM.out _).mono ?_
  rintro e w2 ⟨rfl,hb2⟩
  have HK2:=hid (HK.out.go hb2)
  have HR2:=hid (HR.out.on hb2)
  clear HM hb2 HK HR
  go_wp2_with fail
  refine (must_yes w2).mono ?_
  rintro e w3 ⟨rfl,rfl⟩
  go_wp2
  go_ret
  exact ⟨rfl,HR2.out,HK2.out⟩
end Go.Proofs.YtpejpnffcepdlaaGreatDoor.RcA
namespace Go.Proofs.YtpejpnffcepdlaaGreatDoor.RcB
open Go.RowKit Go.Lib TyM TyP ShM ShP ShB IntO SetP LxM LxJ LxY RwO RdM RdN RdV RdB Aft RcP RcA
open LxP (LinesAt StrsAt)

variable {W:World} {b:Nat} {L:List Ln} {ws:Ln} {reg:Int} {tv:Value} {w:World}

theorem small_no (h:Rdr W b L ws reg tv w) (hm:smallC ws=none):Calls Tryz.prog 152 #[.pointer (some ⟨b,0,none⟩)] w (Out b w):=by
 cases ws with
 | nil =>
  have HC:=hid (word_no h)
  unfold Out at HC
  clear hm h
  go_enter Tryz.func152,Tryz.ntmps152
  go_wp2_with fail
  refine HC.out.mono ?_
  rintro e w1 ⟨rfl,hk⟩
  go_wp2
  exact ⟨rfl,rfl,hk⟩
 | cons x ws =>
  rw [smallC_cons] at hm
  have hq:(NumG.sm (un x) 999).2≠0:=fun e=>by rw [if_pos e] at hm;cases hm
  have HC:=hid (word_yes h)
  have HM:=hid (fun wx=>NumG.small_calls x (h.fw.2 x (by simp)).2 999 wx)
  unfold Goes at HC
  unfold NumG.SmPost at HM
  rw [show x.data.toList=un x from rfl] at HM
  clear hm h
  generalize (NumG.sm (un x) 999).1=q at *
  generalize (NumG.sm (un x) 999).2=z at *
  have hz:(z == 0)=false:=by simpa using hq
  clear hq
  go_enter Tryz.func152,Tryz.ntmps152
  go_wp2_with fail
  refine HC.out.mono ?_
  rintro e w1 ⟨rfl,hr1,hk⟩
  have HK:=hid hk
  clear hr1 hk HC
  go_wp2_with fail
  refine (HM.out _).mono ?_
  rintro e w2 ⟨rfl,hb2⟩
  have HK2:=hid (HK.out.go hb2)
  clear HM hb2 HK
  go_wp2_with fail
  refine (must_no w2).mono ?_
  rintro e w3 ⟨rfl,rfl⟩
  go_wp2
  exact ⟨rfl,rfl,HK2.out⟩
theorem small_yes {n:Int} {ws' : Ln} (h:Rdr W b L ws reg tv w) (hm:smallC ws=some (n,ws')):Calls Tryz.prog 152 #[.pointer (some ⟨b,0,none⟩)] w (Goes W b L ws' reg tv (.int .i64 n) w):=by
 cases ws with
 | nil=>cases hm
 | cons x ws =>
  rw [smallC_cons] at hm
  have hq:(NumG.sm (un x) 999).2=0:=by
   by_cases hq:(NumG.sm (un x) 999).2=0
   ·exact hq
   ·rw [if_neg hq] at hm;cases hm
  rw [if_pos hq] at hm
  cases hm
  have HC:=hid (word_yes h)
  have HM:=hid (fun wx=>NumG.small_calls x (h.fw.2 x (by simp)).2 999 wx)
  unfold Goes at HC
  unfold NumG.SmPost at HM
  rw [show x.data.toList=un x from rfl,hq] at HM
  clear h hq
  generalize (NumG.sm (un x) 999).1=q at *
  go_enter Tryz.func152,Tryz.ntmps152
  go_wp2_with fail
  refine HC.out.mono ?_
  rintro e w1 ⟨rfl,hr1,hk⟩
  have HK:=hid hk
  have HR:=hid hr1
  clear hr1 hk HC
  go_wp2_with fail
  refine (HM.out _).mono ?_
  rintro e w2 ⟨rfl,hb2⟩
  have HK2:=hid (HK.out.go hb2)
  have HR2:=hid (HR.out.on hb2)
  clear HM hb2 HK HR
  go_wp2_with fail
  refine (must_yes w2).mono ?_
  rintro e w3 ⟨rfl,rfl⟩
  go_wp2
  go_ret
  exact ⟨rfl,HR2.out,HK2.out⟩

theorem sizeLn (w:World):(sizeOf (Tryz.prog.elem 121)).run Tryz.prog w=.ok 1 w:=by kernel_rfl
theorem lines_drop {w:World} {ao:Option Addr} {n cap:Nat} {l:List Ln} (h:LinesAt w (.slice ao n cap) l) {k:Nat} (hk:k≤l.length):∃ v,LinesAt w v (l.drop k)∧(∀ wx:World,(Instr.slice 121 (.slice ao n cap) (some (.int .i64 (k:Int))) none none).run Tryz.prog wx=.ok v wx):=by
 obtain ⟨r,rfl,h2,h3⟩:=h
 obtain ⟨v,hv,hr⟩:=list_drop (ts:=121) (by kernel_rfl) sizeLn h2 (k:=k) (by simpa using hk)
 exact ⟨v,⟨r.drop k,by simp,by simpa using hv,fun x hx=>h3 x (List.mem_of_mem_drop hx)⟩,hr⟩

theorem next_no (h:Rdr W b [] ws reg tv w):Calls Tryz.prog 148 #[.pointer (some ⟨b,0,none⟩)] w (Out b w):=by
 obtain ⟨la,lc,wa,wc,c0,c1,c2,c3,hfz,hl,hw,hb,hL,hn⟩:=h.facts
 clear h hl hw c1 c2 c3
 go_enter Tryz.func148,Tryz.ntmps148
 go_wp2_with fail
 refine (must_no w).mono ?_
 rintro e w1 ⟨rfl,rfl⟩
 go_wp2
 exact ⟨rfl,rfl,Kept.refl _ _⟩
theorem next_yes {l:Ln} (h:Rdr W b (l :: L) ws reg tv w):Calls Tryz.prog 148 #[.pointer (some ⟨b,0,none⟩)] w (Goes W b L l reg tv (.tuple #[]) w):=by
 obtain ⟨la,lc,wa,wc,c0,c1,c2,c3,hfz,hl,hw,hb,hL,hn⟩:=h.facts
 obtain ⟨v1,hv1,hr1⟩:=lines_drop hl (k:=1) (by simp)
 have hv1:LinesAt W v1 L:=hv1
 obtain ⟨a1,k1,rfl,_⟩:=hv1.slice
 obtain ⟨lb,off,pv,rfl,_,d0,hpv⟩:=hl.at 0 (by simp)
 have hpv:StrsAt W pv l:=hpv
 obtain ⟨pa,pc,rfl,_⟩:=hpv.slice
 rw [Nat.add_zero] at d0
 have hr1:∀ wx:World,(Instr.slice 121 (.slice (some ⟨lb,off,none⟩) (l :: L).length lc) (some (.int .i64 1)) none none).run Tryz.prog wx=.ok (.slice a1 L.length k1) wx:=hr1
 have HS:=hid ((h.words hpv h.fl.head.2).lines hv1 h.fl.tail).draw
 have HK:Hid (Kept [b] w ((w.setCell ⟨b,1,none⟩ (.slice pa l.length pc)).setCell ⟨b,0,none⟩ (.slice a1 L.length k1)).drew):=(((Kept.refl [b] w).set (.inl (by simp)) _).set (.inl (by simp)) _).drew
 have d0:w.cell? ⟨lb,off,none⟩=some (.slice pa l.length pc):=(h.be.cell (p:=⟨lb,off,none⟩) (World.block_lt_of_cell? W _ d0)).trans d0
 have h0:(0:Int) < ((l :: L).length:Int):=by simp only [List.length_cons];omega
 have h0n:0 < (l :: L).length:=by simp
 have hlb:lb≠b:=fun e=>by
  have h1:=World.block_lt_of_cell? W ⟨lb,off,none⟩ (by assumption)
  have:=h.lo
  simp at h1
  omega
 have hf0:=hfz 0
 have hf1:=hfz 1
 clear h hl hw c2 c3 hfz hv1 hpv
 generalize (l :: L).length=n at *
 go_enter Tryz.func148,Tryz.ntmps148
 go_wp2_with fail
 refine (must_yes w).mono ?_
 rintro e w1 ⟨rfl,rfl⟩
 go_wp2_with fail
 go_region
 go_end0
 exact ⟨rfl,HS.out,HK.out⟩
end Go.Proofs.YtpejpnffcepdlaaGreatDoor.RcB
namespace Go.Proofs.YtpejpnffcepdlaaGreatDoor.RcC
open Go.RowKit Go.Lib TyM TyP ShM ShP ShB IntO SetP LxM LxJ LxY RwO RdM RdN RdV RdB Aft RcP RcA RcB
open LxP (LinesAt StrsAt)

variable {W:World} {b:Nat} {L:List Ln} {ws:Ln} {reg:Int} {tv:Value} {w:World}

theorem ne_words {x y:ByteArray} (h:un x≠un y):(x.toList == y.toList)=false:=by
 rw [Lib.toList_data,Lib.toList_data]
 exact beq_eq_false_iff_ne.2 h
theorem eq_words {x y:ByteArray} (h:un x=un y):(x.toList == y.toList)=true:=by
 rw [Lib.toList_data,Lib.toList_data]
 exact beq_iff_eq.2 h
theorem first_word {l:Ln} (h:Rdr W b (l :: L) ws reg tv w):∃ lb off lc pb off2 pc x r,l=x :: r∧w.cell? ⟨b,0,none⟩=some (.slice (some ⟨lb,off,none⟩) (L.length+1) lc)∧w.cell? ⟨lb,off,none⟩=some (.slice (some ⟨pb,off2,none⟩) (r.length+1) pc)∧w.cell? ⟨pb,off2,none⟩=some (.string x):=by
 obtain ⟨la,lc,wa,wc,c0,c1,c2,c3,hfz,hl,hw,hb,hL,hn⟩:=h.facts
 obtain ⟨lb,off,pv,rfl,_,d0,hpv⟩:=hl.at 0 (by simp)
 have hpv:StrsAt W pv l:=hpv
 rw [Nat.add_zero] at d0
 cases l with
 | nil=>have:=h.fl.head.1;simp at this
 | cons x r =>
  obtain ⟨pa,pc,rfl,_⟩:=hpv.slice
  obtain ⟨pb,off2,rfl,_,d1⟩:=hpv.at 0 (by simp)
  rw [Nat.add_zero] at d1
  exact ⟨lb,off,lc,pb,off2,pc,x,r,rfl,c0,(h.be.cell (p:=⟨lb,off,none⟩) (World.block_lt_of_cell? W _ d0)).trans d0,(h.be.cell (p:=⟨pb,off2,none⟩) (World.block_lt_of_cell? W _ d1)).trans d1⟩
theorem begins_off (wd:ByteArray) (h:Rdr W b L ws reg tv w) (hw:∀ l M,L=l :: M→w0 l≠un wd):Calls Tryz.prog 102 #[.pointer (some ⟨b,0,none⟩),.string wd] w (Goes W b L ws reg tv (.bool false) w):=by
 have HR:=hid h
 cases L with
 | nil =>
  obtain ⟨la,lc,wa,wc,c0,c1,c2,c3,hfz,hl,hw,hb,hL,hn⟩:=h.facts
  clear h hl hw c1 c2 c3
  go_enter Tryz.func102,Tryz.ntmps102
  go_wp2
  go_ret
  exact ⟨rfl,HR.out,Kept.refl _ _⟩
 | cons l L =>
  obtain ⟨lb,off,lc,pb,off2,pc,x,r,rfl,c0,d0,d1⟩:=first_word h
  have hne:(x.toList == wd.toList)=false:=ne_words (hw _ _ rfl)
  have hl:L.length≤20000:=by have:=h.fl.1;simp at this;omega
  have hr:r.length≤64:=by have:=h.fl.head.2.1;simp at this;omega
  clear h hw
  generalize hn1:L.length+1=n1 at *
  generalize hn2:r.length+1=n2 at *
  have h1:((n1:Int) == 0)=false:=by simp;omega
  have h2:0 < n1:=by omega
  have h3:0 < n2:=by omega
  have h4:(0:Int) < n1:=by omega
  have h5:(0:Int) < n2:=by omega
  clear hn1 hn2
  go_enter Tryz.func102,Tryz.ntmps102
  go_wp2
  go_ret
  exact ⟨rfl,HR.out,Kept.refl _ _⟩
theorem begins_on (wd:ByteArray) {l:Ln} (h:Rdr W b (l :: L) ws reg tv w) (hw:w0 l=un wd):Calls Tryz.prog 102 #[.pointer (some ⟨b,0,none⟩),.string wd] w (Goes W b L (l.drop 1) reg tv (.bool true) w):=by
 obtain ⟨lb,off,lc,pb,off2,pc,x,r,rfl,c0,d0,d1⟩:=first_word h
 have hne:(x.toList == wd.toList)=true:=eq_words hw
 have hl:L.length≤20000:=by have:=h.fl.1;simp at this;omega
 have hr:r.length≤64:=by have:=h.fl.head.2.1;simp at this;omega
 have HN:=hid (next_yes h)
 unfold Goes at HN
 clear h hw
 rw [show (x :: r).drop 1=r from rfl]
 generalize hn1:L.length+1=n1 at *
 generalize hn2:r.length+1=n2 at *
 have h1:((n1:Int) == 0)=false:=by simp;omega
 have h2:0 < n1:=by omega
 have h3:0 < n2:=by omega
 have h4:(0:Int) < n1:=by omega
 have h5:(0:Int) < n2:=by omega
 clear hn1 hn2
 go_enter Tryz.func102,Tryz.ntmps102
 go_wp2_with fail
 refine HN.out.mono ?_
 rintro e w1 ⟨rfl,hr1,hk⟩
 have HW:=hid (word_yes hr1)
 unfold Goes at HW
 have HK:=hid hk
 clear HN hk hr1
 go_wp2_with fail
 refine HW.out.mono ?_
 rintro e w2 ⟨rfl,hr2,hk2⟩
 have HR:=hid hr2
 have HK2:=hid (HK.out.trans hk2)
 clear HK HW hk2 hr2
 go_wp2
 go_ret
 exact ⟨rfl,HR.out,HK2.out⟩
end Go.Proofs.YtpejpnffcepdlaaGreatDoor.RcC
namespace Go.Proofs.YtpejpnffcepdlaaGreatDoor.RcD
open Go.RowKit Go.Lib TyM TyP ShM ShP ShB IntO SetP LxM LxJ LxY RwO RdM RdN RdV RdB Aft RcP RcA RcB RcC
open LxP (LinesAt StrsAt)

variable {W:World} {b:Nat} {L:List Ln} {ws:Ln} {reg:Int} {tv:Value} {w:World}

theorem Rdr_typed (h:Rdr W b L ws reg tv w):∀ g,some b=some g→∃ cs fr,w.heap[g]?=some (.cells cs 164 fr):=fun g hg=>by
 cases hg
 obtain ⟨lv,wv,h1,_⟩:=h.cs
 exact ⟨_,_,h1⟩
theorem not_reader (h:Rdr W b L ws reg tv w) {B n s:Nat} {e:TypeId} {v:Value} {xs:List Value} (ho:w.ownsRow B e s v n xs) (hef:e≠164):v.ownBlock≠some b:=fun hv=>by
 obtain ⟨cs,fr,h1⟩:=own_typed ho b hv
 obtain ⟨lv,wv,h2,_⟩:=h.cs
 rw [h2] at h1
 simp at h1
 exact hef h1.2.1.symm
theorem Rdr_grown {w' : World} (h:Rdr W b L ws reg tv w) {B n s:Nat} {e:TypeId} {v:Value} {xs:List Value} (ho:w.ownsRow B e s v n xs) (hB:W.heap.size≤B) (hef:e≠164) (hg:w.grownBy w' v.ownBlock):Rdr W b L ws reg tv w':=by
 have hne:=not_reader h ho hef
 cases hv:v.ownBlock with
 | none =>
  rw [hv] at hg
  exact h.on ⟨hg.os,hg.tape,hg.output,hg.size,fun k hk=>hg.block k hk (by simp)⟩
 | some g =>
  rw [hv] at hg hne
  have hlo:=(ho.lt g hv).1
  exact h.kept (E:=[g]) (kept_grown hg) (fun hx=>hne (by rw [List.mem_singleton.1 hx])) (by simp;omega)
theorem Kept_grown {E:List Nat} {a w w' : World} (h:Kept E a w) {B n s:Nat} {e:TypeId} {v:Value} {xs:List Value} (ho:w.ownsRow B e s v n xs) (hB:a.heap.size≤B) (hg:w.grownBy w' v.ownBlock):Kept E a w' :=
 ⟨hg.os.trans h.os,hg.tape.trans h.tape,hg.output.trans h.output,Nat.le_trans h.size hg.size,fun k hk hE=>(hg.block k (Nat.lt_of_lt_of_le hk h.size) (fun e=>by
  have:=(ho.lt k e.symm).1
  omega)).trans (h.block k hk hE)⟩
theorem owns_go {w' : World} (h:Rdr W b L ws reg tv w) {B n s:Nat} {e:TypeId} {v:Value} {xs:List Value} (ho:w.ownsRow B e s v n xs) (hef:e≠164) (hk:Kept [b] w w'):w'.ownsRow B e s v n xs :=
 owns_other ho hk.grown (Rdr_typed h) hef

def PartsO (W:World) (b:Nat) (L:List Ln) (reg:Int) (tv:Value) (r:List Int) (w:World) (e:Ending) (w' : World):Prop :=
 ∃ u,e=.returned u∧w'.ownsRow w.heap.size 3 1 u r.length (intVals r)∧Rdr W b L [] reg tv w'∧Kept [b] w w'
theorem parts_yes {r:List Int} (h:Rdr W b L ws reg tv w) (hm:marksO 116 ws=some r):Calls Tryz.prog 151 #[.pointer (some ⟨b,0,none⟩)] w (PartsO W b L reg tv r w):=by
 have HM:=hid hm
 have hn:=h.fw.1
 have hWb:=h.be.size
 have HH:=hid h
 clear h hm
 go_enter Tryz.func151,Tryz.ntmps151
 go_wp2_with fail
 go_loopg [3] ws.length (fun gk u wr=>∃ (k:Nat) (xs ys:List Int),k+gk=ws.length∧r=xs++ys∧xs.length=k∧marksO 116 (ws.drop k)=some ys∧wr.ownsRow w.heap.size 3 1 u xs.length (intVals xs)∧Rdr W b L (ws.drop k) reg tv wr∧Kept [b] w wr)
 case atStart=>exact ⟨0,[],r,by omega,rfl,rfl,HM.out,World.ownsRow_nil _ _ _ _,HH.out,Kept.refl _ _⟩
 case round =>
  obtain ⟨k,xs,ys,hk,hr,hxk,hm,hown,hrd,hkp⟩:=hrel
  have HK:=hid hk
  have HR:=hid hr
  have HXK:=hid hxk
  have HKP:=hid hkp
  have HOWN:=hid hown
  obtain ⟨la,lc,wa,wc,c0,c1,c2,c3,hfz,_,_,hb,_,hwn⟩:=hrd.facts
  clear hkp hk hr hxk c0 c2 c3 hfz
  cases hd:ws.drop k with
  | nil =>
   rw [hd] at hm hrd c1 hwn
   cases hm
   have HRD:=hid hrd
   obtain ⟨ua,un,rfl⟩:=own_slice hown
   clear hrd hown hd HH HM
   go_wp2
   go_ret
   refine ⟨_,rfl,?_,HRD.out,HKP.out⟩
   have hr:=HR.out
   rw [List.append_nil] at hr
   rw [hr]
   exact HOWN.out
  | cons x l =>
   have hlt:k < ws.length:=by
    have:=congrArg List.length hd
    rw [List.length_drop] at this
    simp at this
    omega
   have hdk:ws.drop (k+1)=l:=by
    have:=List.drop_drop (i:=1) (j:=k) (l:=ws)
    rw [hd] at this
    simpa [Nat.add_comm] using this.symm
   have HDK:=hid hdk
   have HLT:=hid hlt
   rw [hd] at hm hrd c1 hwn
   rw [marks_cons] at hm
   have hq:(mkN x 116).2=0:=by
    by_cases hq:(mkN x 116).2=0
    ·exact hq
    ·rw [if_neg hq] at hm;cases hm
   rw [if_pos hq] at hm
   have HC:=hid (mark_yes (c:=116) hrd (show markC 116 (x :: l)=some ((mkN x 116).1,l) by rw [markC_cons,if_pos hq]))
   rw [show (((116:UInt8).toNat:Nat):Int)=116 from rfl] at HC
   unfold Goes at HC
   cases hy:marksO 116 l with
   | none=>rw [hy] at hm;cases hm
   | some zs =>
    rw [hy] at hm
    have HZ:Hid (ys=(mkN x 116).1 :: zs):=(Option.some.inj hm).symm
    have HY:=hid hy
    have HO1:=hid (fun w' (hk:Kept [b] wr w')=>owns_go hrd hown (by decide) hk)
    obtain ⟨ua,un,rfl⟩:=own_slice hown
    have h0:(0:Int) < ((x :: l).length:Int):=by simp only [List.length_cons];omega
    clear hm hy hrd hown hd hdk hlt hq HM HH
    generalize (mkN x 116).1=q at *
    generalize (x :: l).length=n1 at *
    go_wp2_with fail
    refine HC.out.mono ?_
    rintro e w1 ⟨rfl,hr1,hk1⟩
    have HR1:=hid hr1
    have HK1:=hid (HKP.out.trans hk1)
    have ho2:=(HO1.out w1 hk1).alloc (.cells #[.int .i64 q] 3)
    have HO2:=hid ho2
    have HI:=hid (ints_one (w:=w1.alloc (.cells #[.int .i64 q] 3)) (b:=w1.heap.size) (n:=q) (cell_new _ _ _ _ rfl) (size_new _ _ _ rfl))
    have hsz:w.heap.size≤(w1.alloc (.cells #[.int .i64 q] 3)).heap.size:=by have:=HK1.out.size;simp only [World.size_alloc];omega
    have hxs:xs.length≤100000:=by have:=HXK.out;have:=HLT.out;omega
    clear hr1 hk1 ho2 HC HO1
    go_wp2_with (at_builtin;refine wpList_append_ints rfl (.tmp 11) (.tmp 14) rfl w.heap.size (.slice ua xs.length un) rfl xs.length (intVals xs) HO2.out hxs (.slice (some ⟨w1.heap.size,0,none⟩) 1 1) [q] rfl HI.out (by simp) hsz ?_)
    intro v' w' hown' hgr
    have HR2:=hid (Rdr_grown (HR1.out.on (alloc_below w1 _)) HO2.out hWb (by decide) hgr)
    have HK2:=hid (Kept_grown (HK1.out.alloc _) HO2.out (Nat.le_refl _) hgr)
    have HNO:Hid (w'.ownsRow w.heap.size 3 1 v' (xs++[q]).length (intVals (xs++[q]))):=by
     show World.ownsRow _ _ _ _ _ _ _
     rw [intVals_append,List.length_append]
     exact hown'
    obtain ⟨va,vn,rfl⟩:=own_slice hown'
    clear hown' hgr HI HO2 HR1 HK1 c1 hsz
    go_wp2
    go_roundg (gk - 1)
    case measure=>have:=HK.out;have:=HLT.out;omega
    case rel=>exact ⟨k+1,xs++[q],zs,by have:=HK.out;have:=HLT.out;omega,by rw [HR.out,HZ.out];simp,by have:=HXK.out;simp;omega,by rw [HDK.out];exact HY.out,HNO.out,by rw [HDK.out];exact HR2.out,HK2.out⟩
theorem parts_no (h:Rdr W b L ws reg tv w) (hm:marksO 116 ws=none):Calls Tryz.prog 151 #[.pointer (some ⟨b,0,none⟩)] w (Out b w):=by
 have HM:=hid hm
 have hn:=h.fw.1
 have hWb:=h.be.size
 have HH:=hid h
 clear h hm
 go_enter Tryz.func151,Tryz.ntmps151
 go_wp2_with fail
 go_loopg [3] ws.length (fun gk u wr=>∃ (k:Nat) (xs:List Int),k+gk=ws.length∧xs.length=k∧marksO 116 (ws.drop k)=none∧wr.ownsRow w.heap.size 3 1 u xs.length (intVals xs)∧Rdr W b L (ws.drop k) reg tv wr∧Kept [b] w wr)
 case atStart=>exact ⟨0,[],by omega,rfl,HM.out,World.ownsRow_nil _ _ _ _,HH.out,Kept.refl _ _⟩
 case round =>
  obtain ⟨k,xs,hk,hxk,hm,hown,hrd,hkp⟩:=hrel
  have HK:=hid hk
  have HXK:=hid hxk
  have HKP:=hid hkp
  have HOWN:=hid hown
  obtain ⟨la,lc,wa,wc,c0,c1,c2,c3,hfz,_,_,hb,_,hwn⟩:=hrd.facts
  clear hkp hk hxk c0 c2 c3 hfz
  cases hd:ws.drop k with
  | nil=>rw [hd] at hm;cases hm
  | cons x l =>
   have hlt:k < ws.length:=by
    have:=congrArg List.length hd
    rw [List.length_drop] at this
    simp at this
    omega
   have hdk:ws.drop (k+1)=l:=by
    have:=List.drop_drop (i:=1) (j:=k) (l:=ws)
    rw [hd] at this
    simpa [Nat.add_comm] using this.symm
   have HDK:=hid hdk
   have HLT:=hid hlt
   rw [hd] at hm hrd c1 hwn
   rw [marks_cons] at hm
   have h0:(0:Int) < ((x :: l).length:Int):=by simp only [List.length_cons];omega
   by_cases hq:(mkN x 116).2=0
   rotate_left
   ·have HC:=hid (mark_no (c:=116) hrd (show markC 116 (x :: l)=none by rw [markC_cons,if_neg hq]))
    rw [show (((116:UInt8).toNat:Nat):Int)=116 from rfl] at HC
    unfold Out at HC
    obtain ⟨ua,un,rfl⟩:=own_slice hown
    clear hm hrd hown hd hdk hlt hq HM HH
    generalize (x :: l).length=n1 at *
    go_wp2_with fail
    refine HC.out.mono ?_
    rintro e w1 ⟨rfl,hk1⟩
    have HK1:=hid (HKP.out.trans hk1)
    clear hk1 HC
    go_wp2
    exact ⟨rfl,rfl,HK1.out⟩
   rw [if_pos hq] at hm
   have HC:=hid (mark_yes (c:=116) hrd (show markC 116 (x :: l)=some ((mkN x 116).1,l) by rw [markC_cons,if_pos hq]))
   rw [show (((116:UInt8).toNat:Nat):Int)=116 from rfl] at HC
   unfold Goes at HC
   cases hy:marksO 116 l with
   | some zs=>rw [hy] at hm;cases hm
   | none =>
    have HY:=hid hy
    have HO1:=hid (fun w' (hk:Kept [b] wr w')=>owns_go hrd hown (by decide) hk)
    obtain ⟨ua,un,rfl⟩:=own_slice hown
    clear hm hy hrd hown hd hdk hlt hq HM HH
    generalize (mkN x 116).1=q at *
    generalize (x :: l).length=n1 at *
    go_wp2_with fail
    refine HC.out.mono ?_
    rintro e w1 ⟨rfl,hr1,hk1⟩
    have HR1:=hid hr1
    have HK1:=hid (HKP.out.trans hk1)
    have ho2:=(HO1.out w1 hk1).alloc (.cells #[.int .i64 q] 3)
    have HO2:=hid ho2
    have HI:=hid (ints_one (w:=w1.alloc (.cells #[.int .i64 q] 3)) (b:=w1.heap.size) (n:=q) (cell_new _ _ _ _ rfl) (size_new _ _ _ rfl))
    have hsz:w.heap.size≤(w1.alloc (.cells #[.int .i64 q] 3)).heap.size:=by have:=HK1.out.size;simp only [World.size_alloc];omega
    have hxs:xs.length≤100000:=by have:=HXK.out;have:=HLT.out;omega
    clear hr1 hk1 ho2 HC HO1
    go_wp2_with (at_builtin;refine wpList_append_ints rfl (.tmp 11) (.tmp 14) rfl w.heap.size (.slice ua xs.length un) rfl xs.length (intVals xs) HO2.out hxs (.slice (some ⟨w1.heap.size,0,none⟩) 1 1) [q] rfl HI.out (by simp) hsz ?_)
    intro v' w' hown' hgr
    have HR2:=hid (Rdr_grown (HR1.out.on (alloc_below w1 _)) HO2.out hWb (by decide) hgr)
    have HK2:=hid (Kept_grown (HK1.out.alloc _) HO2.out (Nat.le_refl _) hgr)
    have HNO:Hid (w'.ownsRow w.heap.size 3 1 v' (xs++[q]).length (intVals (xs++[q]))):=by
     show World.ownsRow _ _ _ _ _ _ _
     rw [intVals_append,List.length_append]
     exact hown'
    obtain ⟨va,vn,rfl⟩:=own_slice hown'
    clear hown' hgr HI HO2 HR1 HK1 c1 hsz
    go_wp2
    go_roundg (gk - 1)
    case measure=>have:=HK.out;have:=HLT.out;omega
    case rel=>exact ⟨k+1,xs++[q],by have:=HK.out;have:=HLT.out;omega,by have:=HXK.out;simp;omega,by rw [HDK.out];exact HY.out,HNO.out,by rw [HDK.out];exact HR2.out,HK2.out⟩
end Go.Proofs.YtpejpnffcepdlaaGreatDoor.RcD
namespace Go.Proofs.YtpejpnffcepdlaaGreatDoor.RcN
open Go.RowKit Go.Lib TyM TyP ShM ShP ShB IntO SetP LxM LxJ LxY RwO RdM RdN RdV RdB Aft RcP RcA RcB

variable {W:World} {b:Nat} {L:List Ln} {ws:Ln} {reg:Int} {tv:Value} {w:World}

theorem int_nil (h:Rdr W b L [] reg tv w):Calls Tryz.prog 224 #[.pointer (some ⟨b,0,none⟩),.int .u8 1] w (Out b w):=by
 have HC:=hid (word_no h)
 unfold Out at HC
 clear h
 go_enter Tryz.func224,Tryz.ntmps224
 go_wp2_with fail
 refine HC.out.mono ?_
 rintro e w1 ⟨rfl,hk⟩
 go_wp2
 exact ⟨rfl,rfl,hk⟩
theorem int_yes {x:ByteArray} (h:Rdr W b L (x :: ws) reg tv w) (hx:(NumP.rd (un x)).2=0):Calls Tryz.prog 224 #[.pointer (some ⟨b,0,none⟩),.int .u8 1] w (Goes W b L ws reg tv (.int .i64 (NumP.rd (un x)).1) w):=by
 have HC:=hid (word_yes h)
 have HM:=hid (fun wx=>NumF.read_calls x (h.fw.2 x (by simp)).2 wx)
 unfold Goes at HC
 unfold NumR.RdPost at HM
 rw [show x.data.toList=un x from rfl] at HM
 rw [hx] at HM
 clear h hx
 generalize (NumP.rd (un x)).1=q at *
 go_enter Tryz.func224,Tryz.ntmps224
 go_wp2_with fail
 refine HC.out.mono ?_
 rintro e w1 ⟨rfl,hr1,hk⟩
 have HK:=hid hk
 have HR:=hid hr1
 clear hr1 hk HC
 go_wp2_with fail
 refine (HM.out _).mono ?_
 rintro e w2 ⟨rfl,hb2⟩
 have HK2:=hid (HK.out.go hb2)
 have HR2:=hid (HR.out.on hb2)
 clear HM hb2 HK HR
 go_wp2_with fail
 refine (must_yes w2).mono ?_
 rintro e w3 ⟨rfl,rfl⟩
 go_wp2
 go_ret
 exact ⟨rfl,HR2.out,HK2.out⟩
theorem int_no {x:ByteArray} (h:Rdr W b L (x :: ws) reg tv w) (hx:(NumP.rd (un x)).2≠0):Calls Tryz.prog 224 #[.pointer (some ⟨b,0,none⟩),.int .u8 1] w (Out b w):=by
 have HC:=hid (word_yes h)
 have HM:=hid (fun wx=>NumF.read_calls x (h.fw.2 x (by simp)).2 wx)
 unfold Goes at HC
 unfold NumR.RdPost at HM
 rw [show x.data.toList=un x from rfl] at HM
 clear h
 generalize (NumP.rd (un x)).1=q at *
 generalize (NumP.rd (un x)).2=z at *
 have hz:(z == 0)=false:=by simpa using hx
 clear hx
 go_enter Tryz.func224,Tryz.ntmps224
 go_wp2_with fail
 refine HC.out.mono ?_
 rintro e w1 ⟨rfl,hr1,hk⟩
 have HK:=hid hk
 have HR:=hid hr1
 clear hr1 hk HC
 go_wp2_with fail
 refine (HM.out _).mono ?_
 rintro e w2 ⟨rfl,hb2⟩
 have HK2:=hid (HK.out.go hb2)
 have HR2:=hid (HR.out.on hb2)
 clear HM hb2 HK HR
 go_wp2_with fail
 refine (must_no w2).mono ?_
 rintro e w3 ⟨rfl,rfl⟩
 go_wp2
 exact ⟨rfl,rfl,HK2.out⟩
theorem fn_yes {n:Int} {ws2:Ln} (h:Rdr W b L ws reg tv w) (hm:markC 102 ws=some (n,ws2)):Calls Tryz.prog 224 #[.pointer (some ⟨b,0,none⟩),.int .u8 3] w (Goes W b L ws2 reg tv (.int .i64 n) w):=by
 have HC:=hid (mark_yes (c:=102) h hm)
 rw [show (((102:UInt8).toNat:Nat):Int)=102 from rfl] at HC
 unfold Goes at HC
 clear h hm
 go_enter Tryz.func224,Tryz.ntmps224
 go_wp2_with fail
 refine HC.out.mono ?_
 rintro e w1 ⟨rfl,hr1,hk⟩
 have HR:=hid hr1
 clear hr1
 go_wp2
 go_ret
 exact ⟨rfl,HR.out,hk⟩
theorem fn_no (h:Rdr W b L ws reg tv w) (hm:markC 102 ws=none):Calls Tryz.prog 224 #[.pointer (some ⟨b,0,none⟩),.int .u8 3] w (Out b w):=by
 have HC:=hid (mark_no (c:=102) h hm)
 rw [show (((102:UInt8).toNat:Nat):Int)=102 from rfl] at HC
 unfold Out at HC
 clear h hm
 go_enter Tryz.func224,Tryz.ntmps224
 go_wp2_with fail
 refine HC.out.mono ?_
 rintro e w1 ⟨rfl,hk⟩
 go_wp2
 exact ⟨rfl,rfl,hk⟩
theorem call_yes {n:Int} {ws2:Ln} (h:Rdr W b L ws reg tv w) (hm:markC 102 ws=some (n,ws2)):Calls Tryz.prog 224 #[.pointer (some ⟨b,0,none⟩),.int .u8 18] w (Goes W b L ws2 reg tv (.int .i64 n) w):=by
 have HC:=hid (mark_yes (c:=102) h hm)
 rw [show (((102:UInt8).toNat:Nat):Int)=102 from rfl] at HC
 unfold Goes at HC
 clear h hm
 go_enter Tryz.func224,Tryz.ntmps224
 go_wp2_with fail
 refine HC.out.mono ?_
 rintro e w1 ⟨rfl,hr1,hk⟩
 have HR:=hid hr1
 clear hr1
 go_wp2
 go_ret
 exact ⟨rfl,HR.out,hk⟩
theorem call_no (h:Rdr W b L ws reg tv w) (hm:markC 102 ws=none):Calls Tryz.prog 224 #[.pointer (some ⟨b,0,none⟩),.int .u8 18] w (Out b w):=by
 have HC:=hid (mark_no (c:=102) h hm)
 rw [show (((102:UInt8).toNat:Nat):Int)=102 from rfl] at HC
 unfold Out at HC
 clear h hm
 go_enter Tryz.func224,Tryz.ntmps224
 go_wp2_with fail
 refine HC.out.mono ?_
 rintro e w1 ⟨rfl,hk⟩
 go_wp2
 exact ⟨rfl,rfl,hk⟩
theorem field_yes {n:Int} {ws2:Ln} (h:Rdr W b L ws reg tv w) (hm:smallC ws=some (n,ws2)):Calls Tryz.prog 224 #[.pointer (some ⟨b,0,none⟩),.int .u8 14] w (Goes W b L ws2 reg tv (.int .i64 n) w):=by
 have HC:=hid (small_yes h hm)
 unfold Goes at HC
 clear h hm
 go_enter Tryz.func224,Tryz.ntmps224
 go_wp2_with fail
 refine HC.out.mono ?_
 rintro e w1 ⟨rfl,hr1,hk⟩
 have HR:=hid hr1
 clear hr1
 go_wp2
 go_ret
 exact ⟨rfl,HR.out,hk⟩
theorem field_no (h:Rdr W b L ws reg tv w) (hm:smallC ws=none):Calls Tryz.prog 224 #[.pointer (some ⟨b,0,none⟩),.int .u8 14] w (Out b w):=by
 have HC:=hid (small_no h hm)
 unfold Out at HC
 clear h hm
 go_enter Tryz.func224,Tryz.ntmps224
 go_wp2_with fail
 refine HC.out.mono ?_
 rintro e w1 ⟨rfl,hk⟩
 go_wp2
 exact ⟨rfl,rfl,hk⟩
theorem none_yes {op:Int} (h:Rdr W b L ws reg tv w) (e1:(op == 1)=false) (e3:(op == 3)=false) (e18:(op == 18)=false) (e14:(op == 14)=false):Calls Tryz.prog 224 #[.pointer (some ⟨b,0,none⟩),.int .u8 op] w (Goes W b L ws reg tv (.int .i64 0) w):=by
 have HR:=hid h
 clear h
 go_enter Tryz.func224,Tryz.ntmps224
 go_wp2
 go_ret
 exact ⟨rfl,HR.out,Kept.refl _ _⟩
theorem numC_cases (op:Int):op=1∨op=3∨op=18∨op=14∨((op == 1)=false∧(op == 3)=false∧(op == 18)=false∧(op == 14)=false∧hasNB op=false):=by
 unfold hasNB
 simp
 omega
theorem num_mark {op:Int} (h:op=3∨op=18) (l:Ln):numC op l=markC 102 l:=by
 have hn:hasNB op=true:=by unfold hasNB;simp;omega
 unfold numC
 rw [if_pos hn]
 cases l with
 | nil=>rfl
 | cons x l =>
  have e1:¬ op=1:=by omega
  have e2:¬ op=14:=by omega
  simp [numP,e1,e2,markC_cons]
theorem num_small (l:Ln):numC 14 l=smallC l:=by
 unfold numC
 rw [if_pos (by decide)]
 cases l with
 | nil=>rfl
 | cons x l=>simp [numP,smallC_cons]
theorem num_int (l:Ln):numC 1 l=(match l with
  | []=>none
  | x :: l=>if (NumP.rd (un x)).2=0 then some ((NumP.rd (un x)).1,l) else none):=by
 unfold numC
 rw [if_pos (by decide)]
 cases l with
 | nil=>rfl
 | cons x l=>simp [numP]
theorem number_yes {op:Int} {n:Int} {ws' : Ln} (h:Rdr W b L ws reg tv w) (hm:numC op ws=some (n,ws')):Calls Tryz.prog 224 #[.pointer (some ⟨b,0,none⟩),.int .u8 op] w (Goes W b L ws' reg tv (.int .i64 n) w):=by
 rcases numC_cases op with rfl | rfl | rfl | rfl | ⟨e1,e3,e18,e14,hn⟩
 ·rw [num_int] at hm
  cases ws with
  | nil=>cases hm
  | cons x l =>
   simp only at hm
   split at hm
   ·rename_i hx;cases hm;exact int_yes h hx
   ·cases hm
 ·rw [num_mark (.inl rfl)] at hm;exact fn_yes h hm
 ·rw [num_mark (.inr rfl)] at hm;exact call_yes h hm
 ·rw [num_small] at hm;exact field_yes h hm
 ·unfold numC at hm
  rw [hn] at hm
  simp at hm
  obtain ⟨rfl,rfl⟩:=hm
  exact none_yes h e1 e3 e18 e14
theorem number_no {op:Int} (h:Rdr W b L ws reg tv w) (hm:numC op ws=none):Calls Tryz.prog 224 #[.pointer (some ⟨b,0,none⟩),.int .u8 op] w (Out b w):=by
 rcases numC_cases op with rfl | rfl | rfl | rfl | ⟨e1,e3,e18,e14,hn⟩
 ·rw [num_int] at hm
  cases ws with
  | nil=>exact int_nil h
  | cons x l =>
   simp only at hm
   split at hm
   ·cases hm
   ·rename_i hx;exact int_no h hx
 ·rw [num_mark (.inl rfl)] at hm;exact fn_no h hm
 ·rw [num_mark (.inr rfl)] at hm;exact call_no h hm
 ·rw [num_small] at hm;exact field_no h hm
 ·unfold numC at hm
  rw [hn] at hm
  simp at hm
end Go.Proofs.YtpejpnffcepdlaaGreatDoor.RcN
namespace Go.Proofs.YtpejpnffcepdlaaGreatDoor.RdP
open Go.RowKit Go.Lib TyM TyP ShM ShP ShB IntO SetP LxM LxJ LxY RwO RdM RdB Fresh Aft

def Apart (va vf:Value):Prop:=∀ g,va.ownBlock=some g→vf.ownBlock≠some g
structure BoxP (w:World) (x:Ix) (va vf:Value) (la lf:List Int) (wr:World):Prop where
 box:wr.heap[w.heap.size]?=some (.cells #[.int .u8 x.op,.int .i64 x.typ,.int .i64 x.a,.int .i64 x.b,.int .i64 x.n,va,vf] 31 (0,0))
 res:wr.heap[w.heap.size+1]?=some (.cells #[.int .u8 0,.int .i64 0,.int .i64 0,.int .i64 0,.int .i64 0,.slice none 0 0,.slice none 0 0] 31 (0,0))
 owa:wr.ownsRow (w.heap.size+2) 3 1 va la.length (intVals la)
 owf:wr.ownsRow (w.heap.size+2) 3 1 vf lf.length (intVals lf)
 apart:Apart va vf
 below:Below w.heap.size w wr
 size:w.heap.size+2≤wr.heap.size
theorem BoxP.on {w:World} {x:Ix} {va vf:Value} {la lf:List Int} {wr w' : World} (h:BoxP w x va vf la lf wr) (hb:Below wr.heap.size wr w'):BoxP w x va vf la lf w' :=
 ⟨(hb.block _ (by have:=h.size;omega)).trans h.box,(hb.block _ (by have:=h.size;omega)).trans h.res,ownsRow_below h.owa hb,ownsRow_below h.owf hb,h.apart,h.below.trans (hb.mono (by have:=h.size;omega)),by have:=h.size;have:=hb.size;omega⟩
theorem kept_apart {w w' : World} {B:Nat} {va vf:Value} {n:Nat} {xs:List Value} (h:w.ownsRow B 3 1 va n xs) (ha:Apart va vf) (hg:w.grownBy w' vf.ownBlock):w'.ownsRow B 3 1 va n xs:=by
 refine h.kept hg ?_
 cases hv:va.ownBlock with
 | none=>exact .inl rfl
 | some g=>exact .inr (fun e=>ha g hv e.symm)
theorem apart_new {w:World} {B n:Nat} {va vf v5:Value} {xs:List Value} (ha:Apart va vf) (hn:NewRow w vf v5) (ho:w.ownsRow B 3 1 va n xs):Apart va v5:=fun g hg e=>by
 rcases hn with h | ⟨g2,h,h2⟩
 ·exact ha g hg (h ▸ e)
 ·rw [h] at e
  cases e
  have:=(ho.lt g hg).2
  omega
theorem Apart.symm {va vf:Value} (h:Apart va vf):Apart vf va:=fun g h1 h2=>h g h2 h1
theorem BoxP.growF {w:World} {x:Ix} {va vf v5:Value} {la lf:List Int} {w4 w5:World} {q:Int} (h:BoxP w x va vf la lf w4) (h5:w5.ownsRow (w.heap.size+2) 3 1 v5 (lf.length+1) (intVals lf++intVals [q])) (hg:w4.grownBy w5 vf.ownBlock) (hn:NewRow w4 vf v5) :
  BoxP w x va v5 la (lf++[q]) (w5.setCell ⟨w.heap.size,6,none⟩ v5)∧w5.heap[w.heap.size]?=some (.cells #[.int .u8 x.op,.int .i64 x.typ,.int .i64 x.a,.int .i64 x.b,.int .i64 x.n,va,vf] 31 (0,0)):=by
 have hlo:=h.owf.lt
 have hs:=h.size
 have hb5:w5.heap[w.heap.size]?=_:=(hg.block _ (by omega) (fun e=>by have:=(hlo _ e.symm).1;omega)).trans h.box
 have hr5:w5.heap[w.heap.size+1]?=_:=(hg.block _ (by omega) (fun e=>by have:=(hlo _ e.symm).1;omega)).trans h.res
 have hgs:=ShTB.grown_set w5 w.heap.size 6 v5
 refine ⟨⟨(ShTB.set_heap' (i:=6) v5 hb5).trans (by simp),(hgs.block _ (Array.getElem?_eq_some_iff.1 hr5).1 (by simp)).trans hr5,owns_other (kept_apart h.owa h.apart hg) hgs (ShTB.typed_at hb5) (by decide),?_,apart_new h.apart hn h.owa,?_,?_⟩,hb5⟩
 ·rw [List.length_append,intVals_append]
  exact owns_other h5 hgs (ShTB.typed_at hb5) (by decide)
 ·exact (h.below.grown hg (by omega) (fun k hk=>by have:=(hlo k hk).1;omega)).setCell (p:=⟨w.heap.size,6,none⟩) (Nat.le_refl _) v5
 ·rw [ShTB.size_set];have:=hg.size;omega
theorem BoxP.growA {w:World} {x:Ix} {va vf v5:Value} {la lf:List Int} {w4 w5:World} {q:Int} (h:BoxP w x va vf la lf w4) (h5:w5.ownsRow (w.heap.size+2) 3 1 v5 (la.length+1) (intVals la++intVals [q])) (hg:w4.grownBy w5 va.ownBlock) (hn:NewRow w4 va v5) :
  BoxP w x v5 vf (la++[q]) lf (w5.setCell ⟨w.heap.size,5,none⟩ v5)∧w5.heap[w.heap.size]?=some (.cells #[.int .u8 x.op,.int .i64 x.typ,.int .i64 x.a,.int .i64 x.b,.int .i64 x.n,va,vf] 31 (0,0)):=by
 have hlo:=h.owa.lt
 have hs:=h.size
 have hb5:w5.heap[w.heap.size]?=_:=(hg.block _ (by omega) (fun e=>by have:=(hlo _ e.symm).1;omega)).trans h.box
 have hr5:w5.heap[w.heap.size+1]?=_:=(hg.block _ (by omega) (fun e=>by have:=(hlo _ e.symm).1;omega)).trans h.res
 have hgs:=ShTB.grown_set w5 w.heap.size 5 v5
 refine ⟨⟨(ShTB.set_heap' (i:=5) v5 hb5).trans (by simp),(hgs.block _ (Array.getElem?_eq_some_iff.1 hr5).1 (by simp)).trans hr5,?_,owns_other (kept_apart h.owf h.apart.symm hg) hgs (ShTB.typed_at hb5) (by decide),(apart_new h.apart.symm hn h.owf).symm,?_,?_⟩,hb5⟩
 ·rw [List.length_append,intVals_append]
  exact owns_other h5 hgs (ShTB.typed_at hb5) (by decide)
 ·exact (h.below.grown hg (by omega) (fun k hk=>by have:=(hlo k hk).1;omega)).setCell (p:=⟨w.heap.size,5,none⟩) (Nat.le_refl _) v5
 ·rw [ShTB.size_set];have:=hg.size;omega
end Go.Proofs.YtpejpnffcepdlaaGreatDoor.RdP
