/- What is read is of bounded size: lines of a text, and the program of them. Walk over read.Read. Plain facts of writing: a program whose shape may be is told whole by its lines. What the writer asks of a program: sizes, numbers; lines one behind the other. A program's own text, or the error. Plain facts of writing: texts; what is written is read as that program, a text told in one way is told so again. -/
import Derived.Test.YtbebficgcemkoaaGreatDoorYRcRToRcX
import Derived.Test.YtbebficgcemkoaaGreatDoorYShIToShJp
import Derived.Test.YtbebficgcemkoaaGreatDoorYLxKToWrI
import Derived.Test.YtbebficgcemkoaaGreatDoorYLxCToLxV
import Derived.Test.YtbebficgcemkoaaGreatDoorYShRMa
import Derived.Test.YtbebficgcemkoaaGreatDoorYWrP
import Derived.Test.YtbebficgcemkoaaGreatDoorYTyMToShN
set_option maxRecDepth 100000
set_option maxHeartbeats 16000000
namespace Go.Proofs.YtbebficgcemkoaaGreatDoor.RcY
open Go.RowKit Go.Lib TyM TyP ShM ShP LxM LxJ LxY RdM RdN RdV RcP
open ShI (POk chkP)

/-! numbers of an instruction, of an end -/
def OkI (y:Ix):Prop:=(0≤y.op∧y.op≤22)∧y.args.length≤64∧y.frm.length≤64
def OkB (x:Bx):Prop:=(0≤x.en.kind∧x.en.kind≤255)∧∀ y∈x.ins,OkI y
theorem rest_ok {op typ a c:Int} {m:Ln} {y:Ix} (h:restP op typ a c m=some y):y.op=op∧y.args.length≤m.length∧y.frm=[]:=by
 unfold restP at h
 split at h
 ·split at h
  ·cases h
  ·split at h
   ·cases h
   ·rename_i q hq
    split at h
    ·cases h
     have:=marks_len hq
     rw [List.length_drop] at this
     exact ⟨rfl,by simp only;omega,rfl⟩
    ·cases h
 ·split at h
  ·cases h
  ·rename_i q hq
   split at h
   ·cases h
    have:=marks_len hq
    exact ⟨rfl,by simp only;omega,rfl⟩
   ·cases h
theorem has_ok {op typ:Int} {l:Ln} {y:Ix} (h:hasP op typ l=some y):y.op=op∧y.args.length≤l.length∧y.frm.length≤l.length:=by
 unfold hasP at h
 split at h
 ·rename_i ho
  unfold phiP ix0 at h
  cases hp:pairsO l with
  | none=>rw [hp] at h;cases h
  | some r =>
   rw [hp] at h
   cases h
   have:=pairs_len hp
   simp
   omega
 ·split at h
  ·cases h
  ·split at h
   ·cases h
   ·obtain ⟨h1,h2,h3⟩:=rest_ok h
    rw [List.length_drop] at h2
    exact ⟨h1,by omega,by rw [h3];simp⟩
theorem ins_ok {l:Ln} {reg:Int} {y:Ix} (hl:l.length≤64) (h:insP l reg=some y):OkI y:=by
 have hop:∀ k,0≤((opW l k:Nat):Int)∧((opW l k:Nat):Int)≤22:=fun k=>by
  have:=op_le (un (l.getD k ⟨#[]⟩))
  unfold opW
  omega
 unfold insP at h
 split at h
 ·split at h
  ·obtain ⟨h1,h2,h3⟩:=has_ok h
   rw [List.length_drop] at h2 h3
   exact ⟨by rw [h1];exact hop 3,by omega,by omega⟩
  ·cases h
 ·split at h
  ·cases h
  ·obtain ⟨h1,h2,h3⟩:=has_ok h
   rw [List.length_drop] at h2 h3
   exact ⟨by rw [h1];exact hop 0,by omega,by omega⟩
theorem end_ok {l:Ln} {x:Ex} (h:endP l=some x):0≤x.kind∧x.kind≤255:=by
 unfold endP at h
 split at h
 ·split at h
  ·cases h;simp
  ·cases h
 ·split at h
  ·cases h
  ·split at h
   ·split at h
    ·cases h;simp
    ·cases h
   ·split at h
    ·split at h
     ·cases h;simp
     ·cases h
    ·cases h
theorem block_ok:∀ {L:List Ln} {reg:Int} {x:Bx} {n:Nat},FineL L→blockP L reg=some (x,n)→OkB x
 | [],_,_,_,_,h=>by cases h
 | l :: L,reg,x,n,hf,h=>by
  unfold blockP at h
  split at h
  ·cases he:endP l with
   | none=>rw [he] at h;cases h
   | some e=>rw [he] at h;cases h;exact ⟨end_ok he,by simp⟩
  ·split at h
   ·cases h
   ·rename_i y hy
    cases hb:blockP L (reg+1) with
    | none=>rw [hb] at h;cases h
    | some r =>
     obtain ⟨r,m⟩:=r
     rw [hb] at h;cases h
     have h1:=block_ok hf.tail hb
     refine ⟨h1.1,fun z hz=>?_⟩
     rcases List.mem_cons.1 hz with rfl | hz
     ·exact ins_ok hf.head.2.1 hy
     ·exact h1.2 z hz
theorem blocks_ok:∀ (k:Nat) {L:List Ln} {reg:Int} {bs:List Bx} {n:Nat},L.length≤k→FineL L→blocksP L reg=some (bs,n)→∀ x∈bs,OkB x
 | 0,L,reg,bs,n,hk,_,h=>by
  obtain rfl:L=[]:=List.eq_nil_of_length_eq_zero (by omega)
  rw [blocks_nil] at h;cases h;simp
 | k+1,[],reg,bs,n,hk,_,h=>by
  rw [blocks_nil] at h;cases h;simp
 | k+1,l :: M,reg,bs,n,hk,hf,h=>by
  rw [blocks_cons] at h
  split at h
  ·split at h
   ·cases hb:blockP M reg with
    | none=>rw [hb] at h;cases h
    | some r =>
     obtain ⟨b,n1⟩:=r
     rw [hb] at h
     simp only at h
     cases hc:blocksP (M.drop n1) (reg+b.ins.length) with
     | none=>rw [hc] at h;cases h
     | some r =>
      obtain ⟨bs2,m⟩:=r
      rw [hc] at h
      cases h
      have h2:=blocks_ok k (by rw [List.length_drop];simp at hk;omega) (hf.tail.drop n1) hc
      intro x hx
      rcases List.mem_cons.1 hx with rfl | hx
      ·exact block_ok hf.tail hb
      ·exact h2 x hx
   ·cases h
  ·cases h;simp
theorem manyL_le {bs:List Bx} : bs.length+manyB bs≤manyL bs:=by
 induction bs with
 | nil=>simp [manyB,manyL]
 | cons b bs ih =>
  unfold manyB manyL at *
  simp only [List.map_cons,List.sum_cons,List.length_cons]
  omega
theorem funcs_ok:∀ (k:Nat) {ts:List Ty} {L:List Ln} {fs:List Fx},L.length≤k→FineL L→funcsP ts L=some fs→fs.length≤L.length∧∀ f∈fs,manyL f.blocks≤L.length∧∀ x∈f.blocks,OkB x
 | 0,ts,L,fs,hk,_,h=>by
  obtain rfl:L=[]:=List.eq_nil_of_length_eq_zero (by omega)
  rw [funcs_nil] at h;cases h;simp
 | k+1,ts,[],fs,hk,_,h=>by
  rw [funcs_nil] at h;cases h;simp
 | k+1,ts,l :: M,fs,hk,hf,h=>by
  rw [funcs_cons] at h
  split at h
  ·split at h
   ·cases hb:funcP ts (mkN (l.getD 1 ⟨#[]⟩) 116).1 M with
    | none=>rw [hb] at h;cases h
    | some r =>
     obtain ⟨f,n⟩:=r
     rw [hb] at h
     simp only at h
     cases hc:funcsP ts (M.drop n) with
     | none=>rw [hc] at h;cases h
     | some gs =>
      rw [hc] at h
      cases h
      have h1:=func_len hb
      have h2:=funcs_ok k (by rw [List.length_drop];simp at hk;omega) (hf.tail.drop n) hc
      rw [List.length_drop] at h2
      refine ⟨by simp;omega,fun g hg=>?_⟩
      rcases List.mem_cons.1 hg with rfl | hg
      ·refine ⟨by simp;omega,?_⟩
       unfold funcP at hb
       cases hq:blocksP M (regOf ts (mkN (l.getD 1 ⟨#[]⟩) 116).1) with
       | none=>rw [hq] at hb;cases hb
       | some r =>
        obtain ⟨bs,m⟩:=r
        rw [hq] at hb
        cases hb
        exact blocks_ok _ (Nat.le_refl _) hf.tail hq
      ·have:=h2.2 g hg
       exact ⟨by simp;omega,this.2⟩
   ·cases h
  ·cases h
theorem types_ok:∀ {L:List Ln} {ts:List Ty} {M:List Ln},FineL L→typesP L=some (ts,M)→FineL M∧∀ t∈ts,t.parts.length≤64
 | [],ts,M,hf,h=>by cases h;exact ⟨hf,by simp⟩
 | l :: L,ts,M,hf,h=>by
  unfold typesP at h
  split at h
  ·split at h
   ·cases h
   ·rename_i t hk
    cases ht:typesP L with
    | none=>rw [ht] at h;cases h
    | some r =>
     obtain ⟨a,b⟩:=r
     rw [ht] at h;cases h
     have h1:=types_ok hf.tail ht
     refine ⟨h1.1,fun x hx=>?_⟩
     rcases List.mem_cons.1 hx with rfl | hx
     ·have h2:=RcX.typ_parts hk
      have h3:=hf.head.2.1
      rw [List.length_drop] at h2
      omega
     ·exact h1.2 x hx
  ·cases h;exact ⟨hf,by simp⟩
theorem prog_ok {L:List Ln} {p:Px} (hf:FineL L) (h:programP L=some p):Small p∧POk p:=by
 unfold programP at h
 split at h
 ·cases h
 ·rename_i ts M ht
  cases hg:funcsP ts M with
  | none=>rw [hg] at h;cases h
  | some fs =>
   rw [hg] at h
   cases h
   have h1:=types_ok hf ht
   have h2:=types_len ht
   have h3:=hf.1
   have h4:=funcs_ok _ (Nat.le_refl _) h1.1 hg
   refine ⟨⟨by simp only;omega,fun x hx=>by have:=h1.2 x hx;omega,by simp only;omega,fun f hx=>?_,fun f hx=>?_,fun f hx b hb y hy=>?_⟩,fun f hx b hb=>⟨((h4.2 f hx).2 b hb).1,fun y hy=>?_⟩⟩
   ·have:=(h4.2 f hx).1
    have:=@manyL_le f.blocks
    omega
   ·have:=(h4.2 f hx).1
    have:=@manyL_le f.blocks
    omega
   ·have:=((h4.2 f hx).2 b hb).2 y hy
    exact ⟨by have:=this.2.1;omega,by have:=this.2.2;omega⟩
   ·have:=(((h4.2 f hx).2 b hb).2 y hy).1
    omega

/-! the lines of a text -/
theorem sz_word {x:List Word} {u:Word} (h:u∈x):u.length+1≤szL x:=by
 induction x with
 | nil=>cases h
 | cons v x ih =>
  have e:szL (v :: x)=v.length+1+szL x:=by simp [szL]
  rcases List.mem_cons.1 h with rfl | h
  ·omega
  ·have:=ih h;omega
theorem sz_line {l:List (List Word)} {x:List Word} (h:x∈l):szL x≤szT l:=by
 induction l with
 | nil=>cases h
 | cons v l ih =>
  have e:szT (v :: l)=szL v+szT l:=by simp [szT]
  rcases List.mem_cons.1 h with rfl | h
  ·omega
  ·have:=ih h;omega
theorem sz_many {l:List (List Word)} (h:∀ x∈l,x≠[]):l.length≤szT l:=by
 induction l with
 | nil=>simp
 | cons v l ih =>
  have e:szT (v :: l)=szL v+szT l:=by simp [szT]
  have h1:=ih fun x hx=>h x (List.mem_cons_of_mem _ hx)
  have h2:1≤szL v:=by
   cases v with
   | nil=>exact absurd rfl (h [] (List.mem_cons_self ..))
   | cons u v =>
    have:=sz_word (x:=u :: v) (List.mem_cons_self ..)
    omega
  simp only [List.length_cons]
  omega
theorem fine_lines {s:List UInt8} (h:lnE s=0):FineL (LxJ.mkL (lnT s)):=by
 obtain ⟨h1,h2⟩:=lnE_zero h
 obtain ⟨h3,h4⟩:=all_ok s
 rw [lnT_ok h]
 have h5:=szT_filter (allW s)
 have hne:∀ x∈(allW s).filter full,x≠[]:=fun x hx=>full_ne (List.mem_filter.1 hx).2
 have h6:=sz_many hne
 refine ⟨?_,fun l hl=>?_⟩
 ·show ((((allW s).filter full).map fun x=>x.map mk)).length≤_
  rw [List.length_map]
  omega
 ·obtain ⟨x,hx,rfl⟩:=List.mem_map.1 (show l∈(((allW s).filter full).map fun x=>x.map mk) from hl)
  have h7:=List.mem_filter.1 hx
  have h8:=List.length_pos_iff.2 (hne x hx)
  refine ⟨by rw [List.length_map];omega,by rw [List.length_map];exact h2 x h7.1,fun y hy=>?_⟩
  obtain ⟨u,hu,rfl⟩:=List.mem_map.1 hy
  have h9:=(mayB_iff.1 (h3 x h7.1 u hu)).1
  have h10:=sz_word hu
  have h11:=sz_line (l:=(allW s).filter full) hx
  refine ⟨by rw [un_mk];exact h9,?_⟩
  rw [← un_len,un_mk]
  omega
end Go.Proofs.YtbebficgcemkoaaGreatDoor.RcY
namespace Go.Proofs.YtbebficgcemkoaaGreatDoor.RcZ
open Go.RowKit Go.Lib TyM TyP ShM ShP ShB IntO SetP LxM LxJ LxY RwO RdM RdN RdV RdB Aft RcP RcO RcT RcW RcX RcY
open ShI (POk chkP)
open LxP (LinesAt StrsAt OwnL)

def px0:Px:=⟨[],[]⟩
def readO (s:List UInt8):Int × Px :=
 if lnE s=0 then (match programP (LxJ.mkL (lnT s)) with
  | none=>(70,px0)
  | some p=>if chkP p=0 then (0,p) else (chkP p,px0)) else (lnE s,px0)
def ReadO (s:ByteArray) (w:World) (e:Ending) (w' : World):Prop:=∃ v,e=.returned (.tuple #[v,.int .i64 (readO (un s)).1])∧PrAt w' v (readO (un s)).2∧Below w.heap.size w w'
theorem pr_zero (w:World):PrAt w (.agg #[.slice none 0 0,.slice none 0 0]) px0:=⟨_,_,rfl,⟨none,0,rfl,by simp [px0],(fun h=>by simp [px0] at h),(fun _=>rfl),by simp [px0]⟩,RowAt.none w⟩
theorem pr_agg {w:World} {v:Value} {q:Px} (h:PrAt w v q):∃ ta tn tc fa fn fc,v=.agg #[.slice ta tn tc,.slice fa fn fc]:=by
 obtain ⟨vt,vf,rfl,h1,h2⟩:=h
 obtain ⟨ta,tc,rfl⟩:=h1.slice
 obtain ⟨fa,fc,rfl,_⟩:=h2.slice
 exact ⟨_,_,_,_,_,_,rfl⟩
theorem q58x1 {P:Prop} (h:P:=by
 clear hn hz hX5 hne5 hk5 hb5
 go_wp2
 (try simp only [Exit.inBlock,Exit.then])
 rw [← HX5.out]
 refine bodyPost_ret (by simp [results,Tryz.results19,go_sem,x0,x1];try rfl) rfl ?_
 exact ⟨_,by rw [HE2.out],by rw [HE2.out];exact pr_zero _,HB5.out⟩):P:=h
theorem read_calls (s:ByteArray) (w:World) (hk:LxK.Tab w) (htab:ShA.Tab w) (hto:TabO w):Calls Tryz.prog 19 #[.string s] w (ReadO s w):=by
 have hb0:=alloc_below w (.cells #[.slice none 0 0,.slice none 0 0] 28)
 have HL:=hid (LxL.lines_calls s (w.alloc (.cells #[.slice none 0 0,.slice none 0 0] 28)) (hk.on hb0))
 have HTAB:=hid (htab.on hb0)
 have HTO:=hid (hto.on hb0)
 have HB0:=hid hb0
 have HN0:Hid ((w.alloc (.cells #[.slice none 0 0,.slice none 0 0] 28)).heap[w.heap.size]?=some (.cells #[.slice none 0 0,.slice none 0 0] 28 (0,0))):=alloc_new _ _
 have HOO:Hid (readO (un s)=if lnE (un s)=0 then (match programP (LxJ.mkL (lnT (un s))) with
  | none=>(70,px0)
  | some p=>if chkP p=0 then (0,p) else (chkP p,px0)) else (lnE (un s),px0)):=rfl
 have HPO:Hid (∀ (oo:Int × Px) e w',oo=readO (un s)→(∃ v,e=.returned (.tuple #[v,.int .i64 oo.1])∧PrAt w' v oo.2∧Below w.heap.size w w')→ReadO s w e w'):=fun oo e w' h1 h2=>by subst h1;exact h2
 have HFL:=hid (fun h=>fine_lines (s:=un s) h)
 unfold LxJ.LnR at HL
 generalize lnT (un s)=ll at *
 generalize hle:lnE (un s)=le at *
 clear hk htab hto hb0 hle
 obtain ⟨oo,hoo⟩:∃ o,o=readO (un s):=⟨_,rfl⟩
 have HE:Hid (oo=if le=0 then (match programP (LxJ.mkL ll) with
  | none=>(70,px0)
  | some p=>if chkP p=0 then (0,p) else (chkP p,px0)) else (le,px0)):=by show _=_;rw [hoo];exact HOO.out
 refine Calls.mono (R:=fun e w'=>∃ v,e=.returned (.tuple #[v,.int .i64 oo.1])∧PrAt w' v oo.2∧Below w.heap.size w w') ?_ (fun e w' h=>HPO.out oo e w' hoo h)
 clear hoo HOO HPO
 go_enter Tryz.func19,Tryz.ntmps19
 go_wp2_with fail
 refine HL.out.mono ?_
 rintro e w1 ⟨u,r,rfl,hr,how,hb1⟩
 have HB1:=hid (HB0.out.trans (hb1.mono HB0.out.size))
 have HN1:=hid ((hb1.block w.heap.size (by simp)).trans HN0.out)
 have HS1:Hid (w.heap.size < w1.heap.size):=by have:=hb1.size;show _ < _;simp only [World.size_alloc] at this;omega
 have HT1:=hid (HTAB.out.on hb1)
 have HU1:=hid (HTO.out.on hb1)
 have HR:=hid hr
 have HOW:=hid how
 clear hr how hb1 HL HTAB HTO HN0 HB0
 by_cases h0:le=0
 rotate_left
 ·have hne:(le != 0)=true:=by simpa using h0
  have HE2:Hid (oo=(le,px0)):=by show _=_;rw [HE.out,if_neg h0]
  clear HE h0 HFL HOW HR HT1 HU1
  have hn:=HN1.out
  have y0:=cells_of hn 0 _ rfl;have y1:=cells_of hn 1 _ rfl
  have hz:=(ShTB.cells_heap hn).2
  have z0:=hz 0;have z1:=hz 1
  obtain ⟨X5,hX5,hne5,hk5,hb5⟩:=set2_world w1 w.heap.size 28 (.slice none 0 0) (.slice none 0 0) (.slice none 0 0) (.slice none 0 0) hn
  have HX5:=hid hX5
  have HB5:=hid (hb5 w.heap.size w HB1.out (Nat.le_refl _))
  have x0:=cells_of hk5 0 _ rfl;have x1:=cells_of hk5 1 _ rfl
  clear HN1 HS1
  exact q58x1
 subst h0
 have HF:=hid (HFL.out rfl)
 have hru:r.length≤9223372036854775807:=by
  have h1:=HF.out.1
  rw [← HR.out,List.length_map] at h1
  omega
 have hli:LinesAt w1 u (LxJ.mkL ll):=by
  rw [← HR.out]
  exact HOW.out.lines hru fun x hx=>by
   have h1:=(HF.out.2 x.1 (by rw [← HR.out];exact List.mem_map_of_mem hx)).2.1
   omega
 have HPC:=hid (program_calls (LxJ.mkL ll) u w1 hli HF.out HT1.out HU1.out)
 obtain ⟨ua,uc,rfl⟩:=LxP.own_slice HOW.out.1
 clear HFL hru hli HOW HU1
 cases hp:programP (LxJ.mkL ll) with
 | none =>
  have HE2:Hid (oo=(70,px0)):=by show _=_;rw [HE.out,if_pos rfl,hp]
  rw [hp] at HPC
  unfold ProgO at HPC
  clear HE hp
  generalize r.length=rl at *
  go_wp2_with fail
  refine HPC.out.mono ?_
  rintro e w2 ⟨rfl,hb2⟩
  obtain ⟨X3,hX3⟩:∃ X,X=w2.alloc (.cells #[.slice none 0 0,.slice none 0 0] 28):=⟨_,rfl⟩
  have hb3:Below w2.heap.size w2 X3:=by rw [hX3];exact alloc_below _ _
  have HX3:=hid hX3
  have HB3:=hid (HB1.out.trans ((hb2.mono (Nat.le_of_lt HS1.out)).trans (hb3.mono (by have:=HS1.out;have:=hb2.size;omega))))
  have HN3:=hid ((hb3.block _ (by have:=HS1.out;have:=hb2.size;omega)).trans ((hb2.block _ HS1.out).trans HN1.out))
  clear hb2 hb3 hX3 HPC HN1 HB1
  go_upto_region 8 with fail
  rw [← HX3.out]
  have hn:=HN3.out
  have y0:=cells_of hn 0 _ rfl;have y1:=cells_of hn 1 _ rfl
  have hz:=(ShTB.cells_heap hn).2
  have z0:=hz 0;have z1:=hz 1
  obtain ⟨X5,hX5,hne5,hk5,hb5⟩:=set2_world X3 w.heap.size 28 (.slice none 0 0) (.slice none 0 0) (.slice none 0 0) (.slice none 0 0) hn
  have HX5:=hid hX5
  have HB5:=hid (hb5 w.heap.size w HB3.out (Nat.le_refl _))
  have x0:=cells_of hk5 0 _ rfl;have x1:=cells_of hk5 1 _ rfl
  clear HN3 HX3
  exact q58x1
 | some q =>
  have hok:=prog_ok HF.out hp
  have HE2:Hid (oo=if chkP q=0 then (0,q) else (chkP q,px0)):=by show _=_;rw [HE.out,if_pos rfl,hp]
  rw [hp] at HPC
  unfold ProgO at HPC
  have HOK:=hid hok
  clear HE hp hok
  generalize r.length=rl at *
  go_wp2_with fail
  refine HPC.out.mono ?_
  rintro e w2 ⟨v,rfl,hpn,hb2⟩
  have hpr:PrAt w2 v q:=hpn w2 fun _ _ _=>rfl
  obtain ⟨ta,tn,tc,fa,fk,fc,rfl⟩:=pr_agg hpr
  obtain ⟨X3,hX3⟩:∃ X,X=w2.alloc (.cells #[.slice ta tn tc,.slice fa fk fc] 28):=⟨_,rfl⟩
  have hb3:Below w2.heap.size w2 X3:=by rw [hX3];exact alloc_below _ _
  have HX3:=hid hX3
  have HQ3:Hid (X3.heap[w2.heap.size]?=some (.cells #[.slice ta tn tc,.slice fa fk fc] 28 (0,0))):=by show _=_;rw [hX3];exact alloc_new _ _
  have HPN:=hid hpn
  have HB23:=hid hb3
  have HC:=hid (ShI.check_calls q _ X3 (hpr.below hb3) ((HT1.out.on hb2).on hb3) HOK.out.1 HOK.out.2)
  have HSZ:Hid (w2.heap.size < X3.heap.size):=by show _ < _;rw [hX3];simp
  have HB3:=hid (HB1.out.trans ((hb2.mono (Nat.le_of_lt HS1.out)).trans (hb3.mono (by have:=HS1.out;have:=hb2.size;omega))))
  have HN3:=hid ((hb3.block _ (by have:=HS1.out;have:=hb2.size;omega)).trans ((hb2.block _ HS1.out).trans HN1.out))
  have HS3:Hid (w.heap.size < w2.heap.size):=by have:=hb2.size;have:=HS1.out;show _ < _;omega
  have f0:=cells_of HQ3.out 0 _ rfl
  have f1:=cells_of HQ3.out 1 _ rfl
  rw [hX3] at f0 f1
  clear hb2 hb3 hX3 HPC HN1 HB1 hpr hpn HT1
  go_wp2_with fail
  rw [← HX3.out]
  clear HX3 f0 f1
  refine HC.out.mono ?_
  rintro e w4 ⟨rfl,hb4⟩
  have HB4:=hid (HB3.out.trans (hb4.mono (by have:=HS3.out;have:=HSZ.out;omega)))
  have HN4:=hid ((hb4.block _ (by have:=HS3.out;have:=HSZ.out;omega)).trans HN3.out)
  have HQ4:=hid ((hb4.block _ HSZ.out).trans HQ3.out)
  have HB34:=hid hb4
  clear hb4 HC HB3 HN3 HQ3
  generalize chkP q=ce at *
  by_cases hc:ce=0
  ·subst hc
   rw [if_pos rfl] at HE2
   have f0:=cells_of HQ4.out 0 _ rfl
   have f1:=cells_of HQ4.out 1 _ rfl
   have hn:=HN4.out
   have y0:=cells_of hn 0 _ rfl;have y1:=cells_of hn 1 _ rfl
   have hz:=(ShTB.cells_heap hn).2
   have z0:=hz 0;have z1:=hz 1
   obtain ⟨X5,hX5,hne5,hk5,hb5⟩:=set2_world w4 w.heap.size 28 (.slice none 0 0) (.slice none 0 0) (.slice ta tn tc) (.slice fa fk fc) hn
   have HX5:=hid hX5
   have HB5:=hid (hb5 w.heap.size w HB4.out (Nat.le_refl _))
   have x0:=cells_of hk5 0 _ rfl;have x1:=cells_of hk5 1 _ rfl
   have HPR5:Hid (PrAt X5 (.agg #[.slice ta tn tc,.slice fa fk fc]) q):=HPN.out X5 fun k h1 h2=>by
    have h3:=HS1.out
    have h4:=HSZ.out
    exact (hne5 k (by omega)).trans ((HB34.out.block k (by omega)).trans (HB23.out.block k h2))
   clear HN4 HQ4 HPN HB34 HB23
   clear hn hz hX5 hne5 hk5 hb5
   go_wp2
   (try simp only [Exit.inBlock,Exit.then])
   rw [← HX5.out]
   refine bodyPost_ret (by simp [results,Tryz.results19,go_sem,x0,x1];try rfl) rfl ?_
   exact ⟨_,by rw [HE2.out],by rw [HE2.out];exact HPR5.out,HB5.out⟩
  ·rw [if_neg hc] at HE2
   have hne:(ce != 0)=true:=by simpa using hc
   have hn:=HN4.out
   have y0:=cells_of hn 0 _ rfl;have y1:=cells_of hn 1 _ rfl
   have hz:=(ShTB.cells_heap hn).2
   have z0:=hz 0;have z1:=hz 1
   obtain ⟨X5,hX5,hne5,hk5,hb5⟩:=set2_world w4 w.heap.size 28 (.slice none 0 0) (.slice none 0 0) (.slice none 0 0) (.slice none 0 0) hn
   have HX5:=hid hX5
   have HB5:=hid (hb5 w.heap.size w HB4.out (Nat.le_refl _))
   have x0:=cells_of hk5 0 _ rfl;have x1:=cells_of hk5 1 _ rfl
   clear HN4 HQ4 hc
   exact q58x1
end Go.Proofs.YtbebficgcemkoaaGreatDoor.RcZ
namespace Go.Proofs.YtbebficgcemkoaaGreatDoor.WrC
open Go.RowKit Go.Lib TyM ShM ShP ShE ShH ShI ShN LxM LxP LxK LxJ LxY RdM RdN RdV NumP WrM WrI WrP

theorem nn_low {m n:Int} (h:0≤n∧n < m) (hm:m≤1000):Nn n:=⟨h.1,by omega⟩
theorem ty_ok {t:List Ty} {k:Nat} {x:Ty} (ht:t.length≤16) (hk:k≤16) (h:mayX t k x=true):TOk x:=by
 unfold mayX at h
 split at h
 ·rename_i h1
  simp only [Bool.and_eq_true,decide_eq_true_eq] at h
  exact .inl ⟨h1,h.1,h.2.1,List.eq_nil_of_length_eq_zero h.2.2⟩
 split at h
 ·rename_i h1
  simp only [Bool.and_eq_true,decide_eq_true_eq] at h
  exact .inr (.inl ⟨h1,nn_low (lowB_iff.1 h.1 x.elem (by simp)) (by omega),h.2.1,List.eq_nil_of_length_eq_zero h.2.2⟩)
 split at h
 ·rename_i h1
  simp only [Bool.and_eq_true,decide_eq_true_eq] at h
  exact .inr (.inr (.inl ⟨h1,nn_low (plainB_low h.2.1) (by omega),h.2.2.2,fun n hn=>nn_low (lowB_iff.1 (plainsB_low h.2.2.1) n hn) (by omega)⟩))
 split at h
 ·rename_i h1
  simp only [Bool.and_eq_true,decide_eq_true_eq] at h
  exact .inr (.inr (.inr (.inl ⟨h1,h.2.2.2.1,h.2.2.2.2,fun n hn=>nn_low (lowB_iff.1 h.2.2.1 n hn) (by omega)⟩)))
 split at h
 ·rename_i h1
  simp only [Bool.and_eq_true,decide_eq_true_eq] at h
  exact .inr (.inr (.inr (.inr ⟨h1,nn_low (lowB_iff.1 h.2.2.1 x.elem (by simp)) (by omega),⟨by omega,by omega⟩,List.eq_nil_of_length_eq_zero h.2.2.2⟩)))
 ·cases h
theorem tys_ok {t:List Ty} (h:chkT t=0):t.length≤16∧∀ (k:Nat) (x:Ty),t[k]?=some x→mayX t k x=true:=by
 unfold chkT at h
 split at h
 ·exact absurd h (by decide)
 ·rename_i h16
  split at h
  ·rename_i hg
   refine ⟨by omega,fun k x hx=>?_⟩
   have hk:=(List.getElem?_eq_some_iff.1 hx).1
   obtain ⟨y,hy,hm,_⟩:=goodB_iff.1 (List.all_eq_true.1 hg k (List.mem_range.2 hk))
   rw [hx] at hy
   cases hy
   exact hm
  ·exact absurd h (by decide)
theorem ins_ok {nt nr nf nb:Int} {x:Ix} (h:mayIR nt nr nf nb x=true) (h1:nt≤1000) (h2:nr≤1000) (h3:nf≤1000) (h4:nb≤1000) (hn:I64 x.n):IOk x:=by
 unfold mayIR at h
 split at h
 ·cases h
 rename_i c1
 split at h
 ·cases h
 rename_i c2
 split at h
 ·cases h
 rename_i c3
 have hop:1≤x.op∧x.op≤22:=by omega
 have hu:lowB nr (usesOf x)=true:=by
  cases hq:lowB nr (usesOf x) with
  | true=>rfl
  | false=>exact absurd (.inr (.inr (.inl hq))) c1
 have hmn:mayNR nf x=true:=by
  cases hq:mayNR nf x with
  | true=>rfl
  | false=>exact absurd (.inr (.inr (.inr hq))) c1
 have hus:=lowB_iff.1 hu
 have ha0:hasAB x.op=false→x.a=0:=fun e=>Classical.byContradiction fun hh=>c2 (.inl ⟨e,hh⟩)
 have hb0:twoB x.op=false→x.b=0:=fun e=>Classical.byContradiction fun hh=>c2 (.inr (.inl ⟨e,hh⟩))
 have hr0:argsB x.op=false→x.args=[]:=fun e=>Classical.byContradiction fun hh=>c2 (.inr (.inr ⟨e,List.length_pos_iff.2 hh⟩))
 have ht0:answersB x.op=false→x.typ=0:=fun e=>Classical.byContradiction fun hh=>c3 (.inr ⟨e,hh⟩)
 have hmem:∀ q,(hasAB x.op=true∧q=x.a)∨(twoB x.op=true∧q=x.b)∨(argsB x.op=true∧q∈x.args)→Nn q:=by
  intro q hq
  refine nn_low (hus q ?_) h2
  unfold usesOf
  rcases hq with ⟨e,rfl⟩ | ⟨e,rfl⟩ | ⟨e,hm⟩
  ·rw [if_pos e];simp
  ·rw [if_pos e];simp
  ·rw [if_pos e];simp [hm]
 have zero:Nn 0:=⟨Int.le_refl _,by decide⟩
 refine ⟨hop,?_,ht0,?_,ha0,?_,hb0,hn,?_,?_,?_,hr0,?_,?_,?_⟩
 ·cases e:answersB x.op with
  | true =>
   refine nn_low (m:=nt) ⟨?_,?_⟩ h1
   ·exact Classical.byContradiction fun hh=>c3 (.inl ⟨e,.inl (by omega)⟩)
   ·exact Classical.byContradiction fun hh=>c3 (.inl ⟨e,.inr (by omega)⟩)
  | false=>rw [ht0 e];exact zero
 ·cases e:hasAB x.op with
  | true=>exact hmem _ (.inl ⟨e,rfl⟩)
  | false=>rw [ha0 e];exact zero
 ·cases e:twoB x.op with
  | true=>exact hmem _ (.inr (.inl ⟨e,rfl⟩))
  | false=>rw [hb0 e];exact zero
 ·intro e h1'
  have hc:x.op=1∨x.op=3∨x.op=14∨x.op=18:=by simpa [hasNB] using e
  unfold mayNR at hmn
  rw [if_neg h1'] at hmn
  split at hmn
  ·exact nn_low (by simpa using hmn) h3
  ·split at hmn
   ·have:0≤x.n∧x.n < 8:=by simpa using hmn
    exact nn_low this (by decide)
   ·omega
 ·intro e
  have hc:¬ (x.op=1∨x.op=3∨x.op=14∨x.op=18):=by simpa [hasNB] using e
  unfold mayNR at hmn
  rw [if_neg (by omega),if_neg (by omega),if_neg (by omega)] at hmn
  simpa using hmn
 ·intro q hq
  cases e:argsB x.op with
  | true=>exact hmem _ (.inr (.inr ⟨e,hq⟩))
  | false=>rw [hr0 e] at hq;cases hq
 ·intro q hq
  by_cases h22:x.op=22
  ·rw [if_pos h22] at h
   simp only [Bool.and_eq_true,decide_eq_true_eq] at h
   exact nn_low (lowB_iff.1 h.2 q hq) h4
  ·rw [if_neg h22] at h
   simp only [decide_eq_true_eq] at h
   rw [List.eq_nil_of_length_eq_zero h.1] at hq
   cases hq
 ·intro h22
  rw [if_neg h22] at h
  simp only [decide_eq_true_eq] at h
  exact List.eq_nil_of_length_eq_zero h.1
 ·intro h22
  rw [if_pos h22] at h
  simp only [Bool.and_eq_true,decide_eq_true_eq] at h
  exact h.1.1
theorem en_ok {nr nb:Int} {x:Ex} (h:mayER nr nb x=true) (h2:nr≤1000) (h4:nb≤1000):EOk x:=by
 unfold mayER at h
 split at h
 ·rename_i h1
  simp only [Bool.and_eq_true,decide_eq_true_eq] at h
  exact .inl ⟨h1,h.1.1,nn_low (lowB_iff.1 h.2 x.to (by simp)) h4,h.1.2⟩
 split at h
 ·rename_i h1
  simp only [Bool.and_eq_true] at h
  exact .inr (.inl ⟨h1,nn_low (lowB_iff.1 h.1 x.a (by simp)) h2,nn_low (lowB_iff.1 h.2 x.to (by simp)) h4,nn_low (lowB_iff.1 h.2 x.els (by simp)) h4⟩)
 split at h
 ·rename_i h1
  simp only [Bool.and_eq_true,decide_eq_true_eq] at h
  exact .inr (.inr ⟨h1,nn_low (lowB_iff.1 h.2 x.a (by simp)) h2,h.1.1,h.1.2⟩)
 ·cases h
def N64 (p:Px):Prop:=∀ f∈p.funcs,∀ b∈f.blocks,∀ x∈b.ins,I64 x.n
theorem prog_ok {p:Px} (h:chkP p=0) (ho:POk p) (hn:N64 p):POkW p:=by
 unfold chkP at h
 split at h
 ·rename_i hc;exact absurd h hc
 rename_i hc
 have hc0:chkT p.types=0:=Classical.byContradiction fun hh=>hc hh
 obtain ⟨h16,hmay⟩:=tys_ok hc0
 split at h
 ·exact absurd h (by decide)
 rename_i hfn
 split at h
 ·rename_i hall
  refine ⟨fun t ht=>?_,fun f hf=>?_⟩
  ·obtain ⟨k,hk,rfl⟩:=List.getElem_of_mem ht
   exact ty_ok h16 (by omega) (hmay k _ (List.getElem?_eq_getElem hk))
  ·have hmf:=List.all_eq_true.1 hall f hf
   unfold mayF at hmf
   split at hmf
   ·cases hmf
   rename_i hs
   have hsig:0≤f.sig∧f.sig < p.types.length:=by omega
   split at hmf
   ·cases hmf
   rename_i hkd
   split at hmf
   ·cases hmf
   rename_i hbl
   have hlt:f.sig.toNat < p.types.length:=by omega
   have hx:=List.getElem?_eq_getElem hlt
   have hm3:=hmay _ _ hx
   have hk3:(p.types[f.sig.toNat]).kind=3:=by
    have:kindAt p.types f.sig=3:=Classical.byContradiction fun hh=>hkd hh
    unfold kindAt at this
    rwa [hx] at this
   have hp4:(p.types[f.sig.toNat]).parts.length≤4:=by
    unfold mayX at hm3
    rw [if_neg (by omega),if_neg (by omega),if_pos hk3] at hm3
    simp only [Bool.and_eq_true,decide_eq_true_eq] at hm3
    exact hm3.1
   have hpar:parOf p.types f.sig=(p.types[f.sig.toNat]).parts.length:=by unfold parOf;rw [hx];rfl
   have hreg:regOf p.types f.sig=((p.types[f.sig.toNat]).parts.length:Int):=by unfold regOf;rw [hx]
   have hmb:insN f.blocks=manyB f.blocks:=rfl
   refine ⟨⟨hsig.1,by omega⟩,fun b hb=>?_,by rw [hreg,hmb];omega⟩
   have hbb:=List.all_eq_true.1 hmf b hb
   unfold mayBl at hbb
   simp only [Bool.and_eq_true,List.all_eq_true] at hbb
   obtain ⟨he0,hi0⟩:=ho f hf b hb
   refine ⟨fun x hx=>?_,?_⟩
   ·have hi:=hbb.2 x hx
    rw [mayI_eq (hi0 x hx).1] at hi
    exact ins_ok hi (by omega) (by rw [hpar];omega) (by omega) (by omega) (hn f hf b hb x hx)
   ·have he:=hbb.1
    rw [mayE_eq he0.1] at he
    exact en_ok he (by rw [hpar];omega) (by omega)
 ·exact absurd h (by decide)
end Go.Proofs.YtbebficgcemkoaaGreatDoor.WrC
namespace Go.Proofs.YtbebficgcemkoaaGreatDoor.WkF
open Go.RowKit Go.Lib TyM ShM ShP ShH ShI LxM LxP LxK LxJ LxY RdM RdN RdV NumP WrM WrI WrP WrC

theorem nn64 {n:Int} (h:Nn n):I64 n:=by
 unfold Nn at h;unfold I64;omega
structure FineQ (p:Px):Prop where
 types:p.types.length≤16
 parts:∀ t∈p.types,t.parts.length≤1000
 elem:∀ t∈p.types,I64 t.elem∧I64 t.many∧∀ n∈t.parts,I64 n
 funcs:p.funcs.length≤8
 sig:∀ f∈p.funcs,0≤f.sig∧f.sig < p.types.length
 blocks:∀ f∈p.funcs,f.blocks.length≤16∧insN f.blocks≤128
 ins:∀ f∈p.funcs,∀ b∈f.blocks,∀ x∈b.ins,IOk x∧x.args.length≤40
 en:∀ f∈p.funcs,∀ b∈f.blocks,I64 b.en.a∧I64 b.en.to∧I64 b.en.els
theorem ty_64 {t:Ty} (h:TOk t):I64 t.elem∧I64 t.many∧∀ n∈t.parts,I64 n:=by
 have h0:I64 0:=by unfold I64;omega
 rcases h with ⟨_,h1,h2,h3⟩ | ⟨_,h1,h2,h3⟩ | ⟨_,h1,h2,h3⟩ | ⟨_,h1,h2,h3⟩ | ⟨_,h1,h2,h3⟩
 ·rw [h1,h2,h3];exact ⟨h0,h0,fun n hn=>by cases hn⟩
 ·rw [h2,h3];exact ⟨nn64 h1,h0,fun n hn=>by cases hn⟩
 ·rw [h2];exact ⟨nn64 h1,h0,fun n hn=>nn64 (h3 n hn)⟩
 ·rw [h1,h2];exact ⟨h0,h0,fun n hn=>nn64 (h3 n hn)⟩
 ·rw [h3];exact ⟨nn64 h1,nn64 h2,fun n hn=>by cases hn⟩
theorem en_64 {x:Ex} (h:EOk x):I64 x.a∧I64 x.to∧I64 x.els:=by
 have h0:I64 0:=by unfold I64;omega
 rcases h with ⟨_,h1,h2,h3⟩ | ⟨_,h1,h2,h3⟩ | ⟨_,h1,h2,h3⟩
 ·rw [h1,h3];exact ⟨h0,nn64 h2,h0⟩
 ·exact ⟨nn64 h1,nn64 h2,nn64 h3⟩
 ·rw [h2,h3];exact ⟨nn64 h1,h0,h0⟩
theorem args_le {nt nr nf nb:Int} {x:Ix} (h:mayIR nt nr nf nb x=true):x.args.length≤16:=by
 unfold mayIR at h
 split at h
 ·cases h
 split at h
 ·cases h
 split at h
 ·cases h
 split at h
 ·simp only [Bool.and_eq_true,decide_eq_true_eq] at h;omega
 ·simp only [decide_eq_true_eq] at h;omega
theorem parts_le {t:List Ty} {k:Nat} {x:Ty} (h:mayX t k x=true):x.parts.length≤8:=by
 unfold mayX at h
 split at h
 ·simp only [Bool.and_eq_true,decide_eq_true_eq] at h;omega
 split at h
 ·simp only [Bool.and_eq_true,decide_eq_true_eq] at h;omega
 split at h
 ·simp only [Bool.and_eq_true,decide_eq_true_eq] at h;omega
 split at h
 ·simp only [Bool.and_eq_true,decide_eq_true_eq] at h;omega
 split at h
 ·simp only [Bool.and_eq_true,decide_eq_true_eq] at h;omega
 ·cases h
theorem fine_of {p:Px} (h:chkP p=0) (ho:POk p) (hn:N64 p):FineQ p:=by
 obtain ⟨hw1,hw2⟩:=prog_ok h ho hn
 unfold chkP at h
 split at h
 ·rename_i hc;exact absurd h hc
 rename_i hc
 have hc0:chkT p.types=0:=Classical.byContradiction fun hh=>hc hh
 obtain ⟨h16,hmay⟩:=tys_ok hc0
 split at h
 ·exact absurd h (by decide)
 rename_i hfn
 split at h
 rotate_left
 ·exact absurd h (by decide)
 rename_i hall
 have hF:∀ f∈p.funcs,(0≤f.sig∧f.sig < p.types.length)∧(f.blocks.length≤16∧insN f.blocks≤128)∧∀ b∈f.blocks,∀ x∈b.ins,x.args.length≤40:=fun f hf=>by
  have hmf:=List.all_eq_true.1 hall f hf
  unfold mayF at hmf
  split at hmf
  ·cases hmf
  rename_i hs
  split at hmf
  ·cases hmf
  split at hmf
  ·cases hmf
  rename_i hbl
  have hmb:insN f.blocks=manyB f.blocks:=rfl
  refine ⟨by omega,by omega,fun b hb x hx=>?_⟩
  have hbb:=List.all_eq_true.1 hmf b hb
  unfold mayBl at hbb
  simp only [Bool.and_eq_true,List.all_eq_true] at hbb
  have hi:=hbb.2 x hx
  obtain ⟨_,hi0⟩:=ho f hf b hb
  rw [ShN.mayI_eq (hi0 x hx).1] at hi
  have:=args_le hi
  omega
 exact {
  types:=h16
  parts:=fun t ht=>by
   obtain ⟨k,hk,rfl⟩:=List.getElem_of_mem ht
   have:=parts_le (hmay k _ (List.getElem?_eq_getElem hk))
   omega
  elem:=fun t ht=>ty_64 (hw1 t ht)
  funcs:=by omega
  sig:=fun f hf=>(hF f hf).1
  blocks:=fun f hf=>(hF f hf).2.1
  ins:=fun f hf b hb x hx=>⟨((hw2 f hf).2.1 b hb).1 x hx,(hF f hf).2.2 b hb x hx⟩
  en:=fun f hf b hb=>en_64 ((hw2 f hf).2.1 b hb).2 }

/-! lines one behind the other -/
theorem insWs_snoc (l:List Ix) (x:Ix):∀ r:Int,insWs (l++[x]) r=insWs l r++[insW x (r+l.length)]:=by
 induction l with
 | nil=>intro r;show [insW x r]=[insW x (r+((0:Nat):Int))];rw [show r+((0:Nat):Int)=r by omega]
 | cons y l ih =>
  intro r
  show insW y r :: insWs (l++[x]) (r+1)=insW y r :: (insWs l (r+1)++[insW x (r+((l.length+1:Nat):Int))])
  rw [ih,show r+1+(l.length:Int)=r+((l.length+1:Nat):Int) by omega]
theorem blocksW_snoc (b:Bx):∀ (bs:List Bx) (r:Int),blocksW (bs++[b]) r=blocksW bs r++(blW :: (insWs b.ins (r+insN bs)++[endW b.en]))
 | [],r=>by
  show blW :: (insWs b.ins r++endW b.en :: [])=blW :: (insWs b.ins (r+((0:Nat):Int))++[endW b.en])
  rw [show r+((0:Nat):Int)=r by omega]
 | c :: bs,r=>by
  show blW :: (insWs c.ins r++endW c.en :: blocksW (bs++[b]) (r+c.ins.length))=blW :: (insWs c.ins r++endW c.en :: blocksW bs (r+c.ins.length))++_
  rw [blocksW_snoc b bs,show r+(c.ins.length:Int)+(insN bs:Nat)=r+(insN (c :: bs):Nat) by simp only [insN,List.map_cons,List.sum_cons];omega]
  simp
theorem funcsW_snoc (ts:List Ty) (f:Fx):∀ fs:List Fx,funcsW ts (fs++[f])=funcsW ts fs++(fnW f.sig :: blocksW f.blocks (regOf ts f.sig))
 | []=>by show fnW f.sig :: (blocksW f.blocks (regOf ts f.sig)++[])=_;rw [List.append_nil];rfl
 | g :: fs=>by
  show fnW g.sig :: (blocksW g.blocks (regOf ts g.sig)++funcsW ts (fs++[f]))=fnW g.sig :: (blocksW g.blocks (regOf ts g.sig)++funcsW ts fs)++_
  rw [funcsW_snoc ts f fs]
  simp
theorem insN_take (bs:List Bx) (j:Nat) (h:j < bs.length):insN (bs.take (j+1))=insN (bs.take j)+bs[j].ins.length:=by
 rw [List.take_succ_eq_append_getElem h]
 unfold insN
 rw [List.map_append,List.sum_append]
 rfl
theorem insN_le (bs:List Bx) (j:Nat):insN (bs.take j)≤insN bs:=by
 have h:insN bs=insN (bs.take j)+insN (bs.drop j):=by
  conv=>lhs;rw [← List.take_append_drop j bs]
  simp only [insN,List.map_append,List.sum_append]
 omega
end Go.Proofs.YtbebficgcemkoaaGreatDoor.WkF
namespace Go.Proofs.YtbebficgcemkoaaGreatDoor.WrT
open Go.RowKit Go.Lib TyM ShM ShP ShI LxM LxP LxK LxJ LxY RdM RdN RdV NumP WrM WrI WrP WrC

def writeO (p:Px):Int × List UInt8:=if chkP p=0 then (jnE (unL (progW p)),jnT (unL (progW p))) else (chkP p,[])
end Go.Proofs.YtbebficgcemkoaaGreatDoor.WrT
namespace Go.Proofs.YtbebficgcemkoaaGreatDoor.WrT
open Go.RowKit Go.Lib TyM ShM ShP ShI LxM LxP LxK LxJ LxY RdM RdN RdV RcP RcY RcZ NumP WrM WrI WrP WrC

def canonO (s:List UInt8):Int × List UInt8:=if (readO s).1=0 then writeO (readO s).2 else ((readO s).1,[])

/-! words that may be -/
def May (y:ByteArray):Prop:=mayB (un y)=true
instance (y:ByteArray):Decidable (May y):=inferInstanceAs (Decidable (_=_))
theorem fine_word {s:List UInt8} (h:lnE s=0):FineW (mkL (lnT s)):=by
 obtain ⟨h3,h4⟩:=all_ok s
 rw [lnT_ok h]
 intro l hl
 obtain ⟨x,hx,rfl⟩:=List.mem_map.1 hl
 obtain ⟨hx,hf⟩:=List.mem_filter.1 hx
 refine ⟨?_,fun y hy=>?_⟩
 ·have:=full_ne hf
  cases x with
  | nil=>exact absurd rfl this
  | cons=>simp
 ·obtain ⟨w,hw,rfl⟩:=List.mem_map.1 hy
  rw [unmk]
  exact (mayB_iff.1 (h3 x hx w hw)).1
theorem read_some {s:List UInt8} (h:(readO s).1=0):lnE s=0∧programP (mkL (lnT s))=some (readO s).2∧chkP (readO s).2=0:=by
 unfold readO at h ⊢
 split at h
 ·rename_i hl
  rw [if_pos hl]
  cases hp:programP (mkL (lnT s)) with
  | none=>rw [hp] at h;exact absurd h (by decide)
  | some p =>
   rw [hp] at h
   simp only at h ⊢
   split at h
   ·rename_i hc
    rw [if_pos hc]
    exact ⟨hl,rfl,hc⟩
   ·rename_i hc
    exact absurd h hc
 ·rename_i hl
  exact absurd h hl
theorem read_n64 {s:List UInt8} (h:(readO s).1=0):N64 (readO s).2∧POk (readO s).2:=by
 obtain ⟨h1,h2,h3⟩:=read_some h
 obtain ⟨_,_,h5⟩:=prog_word (fine_word h1) h2
 refine ⟨fun f hf b hb x hx=>(((h5 f hf).2 b hb).1 x hx).n,fun f hf b hb=>⟨?_,fun x hx=>?_⟩⟩
 ·have:=((h5 f hf).2 b hb).2
  unfold EOk at this
  omega
 ·have:=(((h5 f hf).2 b hb).1 x hx).op
  omega
end Go.Proofs.YtbebficgcemkoaaGreatDoor.WrT
