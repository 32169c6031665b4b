/- What is read is of bounded size: lines of a text, and the program of them. Walk over read.Read. What Read and Lines answer, as the laws use it. Walk over fescuelaw12.is. The texts and programs of fescuelaw12.SoundNames. Walk over fescuelaw12.SoundNames. -/
import Derived.Test.YtpejpnffcepdlaaGreatDoorVRcRToRcX
import Derived.Test.YtpejpnffcepdlaaGreatDoorVShIToBlkG
import Derived.Test.YtpejpnffcepdlaaGreatDoorVLxKToLxL
import Derived.Test.YtpejpnffcepdlaaGreatDoorVLuMToSzM
import Derived.Test.YtpejpnffcepdlaaGreatDoorVRwH
set_option maxRecDepth 100000
set_option maxHeartbeats 16000000
namespace Go.Proofs.YtpejpnffcepdlaaGreatDoor.RcY
open Go.RowKit Go.Lib TyM TyP ShM ShP LxM LxJ LxY RdM RdN RdV RcP
open ShI (POk chkP)

/-! numbers of an instruction, of an end -/
def OkI (y:Ix):Prop:=(0≤y.op∧y.op≤22)∧y.args.length≤64∧y.frm.length≤64
def OkB (x:Bx):Prop:=(0≤x.en.kind∧x.en.kind≤255)∧∀ y∈x.ins,OkI y
theorem rest_ok {op typ a c:Int} {m:Ln} {y:Ix} (h:restP op typ a c m=some y):y.op=op∧y.args.length≤m.length∧y.frm=[]:=by
 unfold restP at h
 split at h
 ·split at h
  ·cases h
  ·split at h
   ·cases h
   ·rename_i q hq
    split at h
    ·cases h
     have:=marks_len hq
     rw [List.length_drop] at this
     exact ⟨rfl,by simp only;omega,rfl⟩
    ·cases h
 ·split at h
  ·cases h
  ·rename_i q hq
   split at h
   ·cases h
    have:=marks_len hq
    exact ⟨rfl,by simp only;omega,rfl⟩
   ·cases h
theorem has_ok {op typ:Int} {l:Ln} {y:Ix} (h:hasP op typ l=some y):y.op=op∧y.args.length≤l.length∧y.frm.length≤l.length:=by
 unfold hasP at h
 split at h
 ·rename_i ho
  unfold phiP ix0 at h
  cases hp:pairsO l with
  | none=>rw [hp] at h;cases h
  | some r =>
   rw [hp] at h
   cases h
   have:=pairs_len hp
   simp
   omega
 ·split at h
  ·cases h
  ·split at h
   ·cases h
   ·obtain ⟨h1,h2,h3⟩:=rest_ok h
    rw [List.length_drop] at h2
    exact ⟨h1,by omega,by rw [h3];simp⟩
theorem ins_ok {l:Ln} {reg:Int} {y:Ix} (hl:l.length≤64) (h:insP l reg=some y):OkI y:=by
 have hop:∀ k,0≤((opW l k:Nat):Int)∧((opW l k:Nat):Int)≤22:=fun k=>by
  have:=op_le (un (l.getD k ⟨#[]⟩))
  unfold opW
  omega
 unfold insP at h
 split at h
 ·split at h
  ·obtain ⟨h1,h2,h3⟩:=has_ok h
   rw [List.length_drop] at h2 h3
   exact ⟨by rw [h1];exact hop 3,by omega,by omega⟩
  ·cases h
 ·split at h
  ·cases h
  ·obtain ⟨h1,h2,h3⟩:=has_ok h
   rw [List.length_drop] at h2 h3
   exact ⟨by rw [h1];exact hop 0,by omega,by omega⟩
theorem end_ok {l:Ln} {x:Ex} (h:endP l=some x):0≤x.kind∧x.kind≤255:=by
 unfold endP at h
 split at h
 ·split at h
  ·cases h;simp
  ·cases h
 ·split at h
  ·cases h
  ·split at h
   ·split at h
    ·cases h;simp
    ·cases h
   ·split at h
    ·split at h
     ·cases h;simp
     ·cases h
    ·cases h
theorem block_ok:∀ {L:List Ln} {reg:Int} {x:Bx} {n:Nat},FineL L→blockP L reg=some (x,n)→OkB x
 | [],_,_,_,_,h=>by cases h
 | l :: L,reg,x,n,hf,h=>by
  unfold blockP at h
  split at h
  ·cases he:endP l with
   | none=>rw [he] at h;cases h
   | some e=>rw [he] at h;cases h;exact ⟨end_ok he,by simp⟩
  ·split at h
   ·cases h
   ·rename_i y hy
    cases hb:blockP L (reg+1) with
    | none=>rw [hb] at h;cases h
    | some r =>
     obtain ⟨r,m⟩:=r
     rw [hb] at h;cases h
     have h1:=block_ok hf.tail hb
     refine ⟨h1.1,fun z hz=>?_⟩
     rcases List.mem_cons.1 hz with rfl | hz
     ·exact ins_ok hf.head.2.1 hy
     ·exact h1.2 z hz
theorem blocks_ok:∀ (k:Nat) {L:List Ln} {reg:Int} {bs:List Bx} {n:Nat},L.length≤k→FineL L→blocksP L reg=some (bs,n)→∀ x∈bs,OkB x
 | 0,L,reg,bs,n,hk,_,h=>by
  obtain rfl:L=[]:=List.eq_nil_of_length_eq_zero (by omega)
  rw [blocks_nil] at h;cases h;simp
 | k+1,[],reg,bs,n,hk,_,h=>by
  rw [blocks_nil] at h;cases h;simp
 | k+1,l :: M,reg,bs,n,hk,hf,h=>by
  rw [blocks_cons] at h
  split at h
  ·split at h
   ·cases hb:blockP M reg with
    | none=>rw [hb] at h;cases h
    | some r =>
     obtain ⟨b,n1⟩:=r
     rw [hb] at h
     simp only at h
     cases hc:blocksP (M.drop n1) (reg+b.ins.length) with
     | none=>rw [hc] at h;cases h
     | some r =>
      obtain ⟨bs2,m⟩:=r
      rw [hc] at h
      cases h
      have h2:=blocks_ok k (by rw [List.length_drop];simp at hk;omega) (hf.tail.drop n1) hc
      intro x hx
      rcases List.mem_cons.1 hx with rfl | hx
      ·exact block_ok hf.tail hb
      ·exact h2 x hx
   ·cases h
  ·cases h;simp
theorem manyL_le {bs:List Bx} : bs.length+manyB bs≤manyL bs:=by
 induction bs with
 | nil=>simp [manyB,manyL]
 | cons b bs ih =>
  unfold manyB manyL at *
  simp only [List.map_cons,List.sum_cons,List.length_cons]
  omega
theorem funcs_ok:∀ (k:Nat) {ts:List Ty} {L:List Ln} {fs:List Fx},L.length≤k→FineL L→funcsP ts L=some fs→fs.length≤L.length∧∀ f∈fs,manyL f.blocks≤L.length∧∀ x∈f.blocks,OkB x
 | 0,ts,L,fs,hk,_,h=>by
  obtain rfl:L=[]:=List.eq_nil_of_length_eq_zero (by omega)
  rw [funcs_nil] at h;cases h;simp
 | k+1,ts,[],fs,hk,_,h=>by
  rw [funcs_nil] at h;cases h;simp
 | k+1,ts,l :: M,fs,hk,hf,h=>by
  rw [funcs_cons] at h
  split at h
  ·split at h
   ·cases hb:funcP ts (mkN (l.getD 1 ⟨#[]⟩) 116).1 M with
    | none=>rw [hb] at h;cases h
    | some r =>
     obtain ⟨f,n⟩:=r
     rw [hb] at h
     simp only at h
     cases hc:funcsP ts (M.drop n) with
     | none=>rw [hc] at h;cases h
     | some gs =>
      rw [hc] at h
      cases h
      have h1:=func_len hb
      have h2:=funcs_ok k (by rw [List.length_drop];simp at hk;omega) (hf.tail.drop n) hc
      rw [List.length_drop] at h2
      refine ⟨by simp;omega,fun g hg=>?_⟩
      rcases List.mem_cons.1 hg with rfl | hg
      ·refine ⟨by simp;omega,?_⟩
       unfold funcP at hb
       cases hq:blocksP M (regOf ts (mkN (l.getD 1 ⟨#[]⟩) 116).1) with
       | none=>rw [hq] at hb;cases hb
       | some r =>
        obtain ⟨bs,m⟩:=r
        rw [hq] at hb
        cases hb
        exact blocks_ok _ (Nat.le_refl _) hf.tail hq
      ·have:=h2.2 g hg
       exact ⟨by simp;omega,this.2⟩
   ·cases h
  ·cases h
theorem types_ok:∀ {L:List Ln} {ts:List Ty} {M:List Ln},FineL L→typesP L=some (ts,M)→FineL M∧∀ t∈ts,t.parts.length≤64
 | [],ts,M,hf,h=>by cases h;exact ⟨hf,by simp⟩
 | l :: L,ts,M,hf,h=>by
  unfold typesP at h
  split at h
  ·split at h
   ·cases h
   ·rename_i t hk
    cases ht:typesP L with
    | none=>rw [ht] at h;cases h
    | some r =>
     obtain ⟨a,b⟩:=r
     rw [ht] at h;cases h
     have h1:=types_ok hf.tail ht
     refine ⟨h1.1,fun x hx=>?_⟩
     rcases List.mem_cons.1 hx with rfl | hx
     ·have h2:=RcX.typ_parts hk
      have h3:=hf.head.2.1
      rw [List.length_drop] at h2
      omega
     ·exact h1.2 x hx
  ·cases h;exact ⟨hf,by simp⟩
theorem prog_ok {L:List Ln} {p:Px} (hf:FineL L) (h:programP L=some p):Small p∧POk p:=by
 unfold programP at h
 split at h
 ·cases h
 ·rename_i ts M ht
  cases hg:funcsP ts M with
  | none=>rw [hg] at h;cases h
  | some fs =>
   rw [hg] at h
   cases h
   have h1:=types_ok hf ht
   have h2:=types_len ht
   have h3:=hf.1
   have h4:=funcs_ok _ (Nat.le_refl _) h1.1 hg
   refine ⟨⟨by simp only;omega,fun x hx=>by have:=h1.2 x hx;omega,by simp only;omega,fun f hx=>?_,fun f hx=>?_,fun f hx b hb y hy=>?_⟩,fun f hx b hb=>⟨((h4.2 f hx).2 b hb).1,fun y hy=>?_⟩⟩
   ·have:=(h4.2 f hx).1
    have:=@manyL_le f.blocks
    omega
   ·have:=(h4.2 f hx).1
    have:=@manyL_le f.blocks
    omega
   ·have:=((h4.2 f hx).2 b hb).2 y hy
    exact ⟨by have:=this.2.1;omega,by have:=this.2.2;omega⟩
   ·have:=(((h4.2 f hx).2 b hb).2 y hy).1
    omega

/-! the lines of a text -/
theorem sz_word {x:List Word} {u:Word} (h:u∈x):u.length+1≤szL x:=by
 induction x with
 | nil=>cases h
 | cons v x ih =>
  have e:szL (v :: x)=v.length+1+szL x:=by simp [szL]
  rcases List.mem_cons.1 h with rfl | h
  ·omega
  ·have:=ih h;omega
theorem sz_line {l:List (List Word)} {x:List Word} (h:x∈l):szL x≤szT l:=by
 induction l with
 | nil=>cases h
 | cons v l ih =>
  have e:szT (v :: l)=szL v+szT l:=by simp [szT]
  rcases List.mem_cons.1 h with rfl | h
  ·omega
  ·have:=ih h;omega
theorem sz_many {l:List (List Word)} (h:∀ x∈l,x≠[]):l.length≤szT l:=by
 induction l with
 | nil=>simp
 | cons v l ih =>
  have e:szT (v :: l)=szL v+szT l:=by simp [szT]
  have h1:=ih fun x hx=>h x (List.mem_cons_of_mem _ hx)
  have h2:1≤szL v:=by
   cases v with
   | nil=>exact absurd rfl (h [] (List.mem_cons_self ..))
   | cons u v =>
    have:=sz_word (x:=u :: v) (List.mem_cons_self ..)
    omega
  simp only [List.length_cons]
  omega
theorem fine_lines {s:List UInt8} (h:lnE s=0):FineL (LxJ.mkL (lnT s)):=by
 obtain ⟨h1,h2⟩:=lnE_zero h
 obtain ⟨h3,h4⟩:=all_ok s
 rw [lnT_ok h]
 have h5:=szT_filter (allW s)
 have hne:∀ x∈(allW s).filter full,x≠[]:=fun x hx=>full_ne (List.mem_filter.1 hx).2
 have h6:=sz_many hne
 refine ⟨?_,fun l hl=>?_⟩
 ·show ((((allW s).filter full).map fun x=>x.map mk)).length≤_
  rw [List.length_map]
  omega
 ·obtain ⟨x,hx,rfl⟩:=List.mem_map.1 (show l∈(((allW s).filter full).map fun x=>x.map mk) from hl)
  have h7:=List.mem_filter.1 hx
  have h8:=List.length_pos_iff.2 (hne x hx)
  refine ⟨by rw [List.length_map];omega,by rw [List.length_map];exact h2 x h7.1,fun y hy=>?_⟩
  obtain ⟨u,hu,rfl⟩:=List.mem_map.1 hy
  have h9:=(mayB_iff.1 (h3 x h7.1 u hu)).1
  have h10:=sz_word hu
  have h11:=sz_line (l:=(allW s).filter full) hx
  refine ⟨by rw [un_mk];exact h9,?_⟩
  rw [← un_len,un_mk]
  omega
end Go.Proofs.YtpejpnffcepdlaaGreatDoor.RcY
namespace Go.Proofs.YtpejpnffcepdlaaGreatDoor.RcZ
open Go.RowKit Go.Lib TyM TyP ShM ShP ShB IntO SetP LxM LxJ LxY RwO RdM RdN RdV RdB Aft RcP RcO RcT RcW RcX RcY
open ShI (POk chkP)
open LxP (LinesAt StrsAt OwnL)

def px0:Px:=⟨[],[]⟩
def readO (s:List UInt8):Int × Px :=
 if lnE s=0 then (match programP (LxJ.mkL (lnT s)) with
  | none=>(70,px0)
  | some p=>if chkP p=0 then (0,p) else (chkP p,px0)) else (lnE s,px0)
def ReadO (s:ByteArray) (w:World) (e:Ending) (w' : World):Prop:=∃ v,e=.returned (.tuple #[v,.int .i64 (readO (un s)).1])∧PrAt w' v (readO (un s)).2∧Below w.heap.size w w'
theorem pr_zero (w:World):PrAt w (.agg #[.slice none 0 0,.slice none 0 0]) px0:=⟨_,_,rfl,⟨none,0,rfl,by simp [px0],(fun h=>by simp [px0] at h),(fun _=>rfl),by simp [px0]⟩,RowAt.none w⟩
theorem pr_agg {w:World} {v:Value} {q:Px} (h:PrAt w v q):∃ ta tn tc fa fn fc,v=.agg #[.slice ta tn tc,.slice fa fn fc]:=by
 obtain ⟨vt,vf,rfl,h1,h2⟩:=h
 obtain ⟨ta,tc,rfl⟩:=h1.slice
 obtain ⟨fa,fc,rfl,_⟩:=h2.slice
 exact ⟨_,_,_,_,_,_,rfl⟩
theorem read_calls (s:ByteArray) (w:World) (hk:LxK.Tab w) (htab:ShA.Tab w) (hto:TabO w):Calls Tryz.prog 24 #[.string s] w (ReadO s w):=by
 have hb0:=alloc_below w (.cells #[.slice none 0 0,.slice none 0 0] 27)
 have HL:=hid (LxL.lines_calls s (w.alloc (.cells #[.slice none 0 0,.slice none 0 0] 27)) (hk.on hb0))
 have HTAB:=hid (htab.on hb0)
 have HTO:=hid (hto.on hb0)
 have HB0:=hid hb0
 have HN0:Hid ((w.alloc (.cells #[.slice none 0 0,.slice none 0 0] 27)).heap[w.heap.size]?=some (.cells #[.slice none 0 0,.slice none 0 0] 27 (0,0))):=alloc_new _ _
 have HOO:Hid (readO (un s)=if lnE (un s)=0 then (match programP (LxJ.mkL (lnT (un s))) with
  | none=>(70,px0)
  | some p=>if chkP p=0 then (0,p) else (chkP p,px0)) else (lnE (un s),px0)):=rfl
 have HPO:Hid (∀ (oo:Int × Px) e w',oo=readO (un s)→(∃ v,e=.returned (.tuple #[v,.int .i64 oo.1])∧PrAt w' v oo.2∧Below w.heap.size w w')→ReadO s w e w'):=fun oo e w' h1 h2=>by subst h1;exact h2
 have HFL:=hid (fun h=>fine_lines (s:=un s) h)
 unfold LxJ.LnR at HL
 generalize lnT (un s)=ll at *
 generalize hle:lnE (un s)=le at *
 clear hk htab hto hb0 hle
 obtain ⟨oo,hoo⟩:∃ o,o=readO (un s):=⟨_,rfl⟩
 have HE:Hid (oo=if le=0 then (match programP (LxJ.mkL ll) with
  | none=>(70,px0)
  | some p=>if chkP p=0 then (0,p) else (chkP p,px0)) else (le,px0)):=by show _=_;rw [hoo];exact HOO.out
 refine Calls.mono (R:=fun e w'=>∃ v,e=.returned (.tuple #[v,.int .i64 oo.1])∧PrAt w' v oo.2∧Below w.heap.size w w') ?_ (fun e w' h=>HPO.out oo e w' hoo h)
 clear hoo HOO HPO
 go_enter Tryz.func24,Tryz.ntmps24
 go_wp2_with fail
 refine HL.out.mono ?_
 rintro e w1 ⟨u,r,rfl,hr,how,hb1⟩
 have HB1:=hid (HB0.out.trans (hb1.mono HB0.out.size))
 have HN1:=hid ((hb1.block w.heap.size (by simp)).trans HN0.out)
 have HS1:Hid (w.heap.size < w1.heap.size):=by have:=hb1.size;show _ < _;simp only [World.size_alloc] at this;omega
 have HT1:=hid (HTAB.out.on hb1)
 have HU1:=hid (HTO.out.on hb1)
 have HR:=hid hr
 have HOW:=hid how
 clear hr how hb1 HL HTAB HTO HN0 HB0
 by_cases h0:le=0
 rotate_left
 ·have hne:(le != 0)=true:=by simpa using h0
  have HE2:Hid (oo=(le,px0)):=by show _=_;rw [HE.out,if_neg h0]
  clear HE h0 HFL HOW HR HT1 HU1
  have hn:=HN1.out
  have y0:=cells_of hn 0 _ rfl;have y1:=cells_of hn 1 _ rfl
  have hz:=(ShTB.cells_heap hn).2
  have z0:=hz 0;have z1:=hz 1
  obtain ⟨X5,hX5,hne5,hk5,hb5⟩:=set2_world w1 w.heap.size 27 (.slice none 0 0) (.slice none 0 0) (.slice none 0 0) (.slice none 0 0) hn
  have HX5:=hid hX5
  have HB5:=hid (hb5 w.heap.size w HB1.out (Nat.le_refl _))
  have x0:=cells_of hk5 0 _ rfl;have x1:=cells_of hk5 1 _ rfl
  clear HN1 HS1
  clear hn hz hX5 hne5 hk5 hb5
  go_wp2
  (try simp only [Exit.inBlock,Exit.then])
  rw [← HX5.out]
  refine bodyPost_ret (by simp [results,Tryz.results24,go_sem,x0,x1];try rfl) rfl ?_
  exact ⟨_,by rw [HE2.out],by rw [HE2.out];exact pr_zero _,HB5.out⟩
 subst h0
 have HF:=hid (HFL.out rfl)
 have hru:r.length≤9223372036854775807:=by
  have h1:=HF.out.1
  rw [← HR.out,List.length_map] at h1
  omega
 have hli:LinesAt w1 u (LxJ.mkL ll):=by
  rw [← HR.out]
  exact HOW.out.lines hru fun x hx=>by
   have h1:=(HF.out.2 x.1 (by rw [← HR.out];exact List.mem_map_of_mem hx)).2.1
   omega
 have HPC:=hid (program_calls (LxJ.mkL ll) u w1 hli HF.out HT1.out HU1.out)
 obtain ⟨ua,uc,rfl⟩:=LxP.own_slice HOW.out.1
 clear HFL hru hli HOW HU1
 cases hp:programP (LxJ.mkL ll) with
 | none =>
  have HE2:Hid (oo=(70,px0)):=by show _=_;rw [HE.out,if_pos rfl,hp]
  rw [hp] at HPC
  unfold ProgO at HPC
  clear HE hp
  generalize r.length=rl at *
  go_wp2_with fail
  refine HPC.out.mono ?_
  rintro e w2 ⟨rfl,hb2⟩
  obtain ⟨X3,hX3⟩:∃ X,X=w2.alloc (.cells #[.slice none 0 0,.slice none 0 0] 27):=⟨_,rfl⟩
  have hb3:Below w2.heap.size w2 X3:=by rw [hX3];exact alloc_below _ _
  have HX3:=hid hX3
  have HB3:=hid (HB1.out.trans ((hb2.mono (Nat.le_of_lt HS1.out)).trans (hb3.mono (by have:=HS1.out;have:=hb2.size;omega))))
  have HN3:=hid ((hb3.block _ (by have:=HS1.out;have:=hb2.size;omega)).trans ((hb2.block _ HS1.out).trans HN1.out))
  clear hb2 hb3 hX3 HPC HN1 HB1
  go_upto_region 8 with fail
  rw [← HX3.out]
  have hn:=HN3.out
  have y0:=cells_of hn 0 _ rfl;have y1:=cells_of hn 1 _ rfl
  have hz:=(ShTB.cells_heap hn).2
  have z0:=hz 0;have z1:=hz 1
  obtain ⟨X5,hX5,hne5,hk5,hb5⟩:=set2_world X3 w.heap.size 27 (.slice none 0 0) (.slice none 0 0) (.slice none 0 0) (.slice none 0 0) hn
  have HX5:=hid hX5
  have HB5:=hid (hb5 w.heap.size w HB3.out (Nat.le_refl _))
  have x0:=cells_of hk5 0 _ rfl;have x1:=cells_of hk5 1 _ rfl
  clear HN3 HX3
  clear hn hz hX5 hne5 hk5 hb5
  go_wp2
  (try simp only [Exit.inBlock,Exit.then])
  rw [← HX5.out]
  refine bodyPost_ret (by simp [results,Tryz.results24,go_sem,x0,x1];try rfl) rfl ?_
  exact ⟨_,by rw [HE2.out],by rw [HE2.out];exact pr_zero _,HB5.out⟩
 | some q =>
  have hok:=prog_ok HF.out hp
  have HE2:Hid (oo=if chkP q=0 then (0,q) else (chkP q,px0)):=by show _=_;rw [HE.out,if_pos rfl,hp]
  rw [hp] at HPC
  unfold ProgO at HPC
  have HOK:=hid hok
  clear HE hp hok
  generalize r.length=rl at *
  go_wp2_with fail
  refine HPC.out.mono ?_
  rintro e w2 ⟨v,rfl,hpn,hb2⟩
  have hpr:PrAt w2 v q:=hpn w2 fun _ _ _=>rfl
  obtain ⟨ta,tn,tc,fa,fk,fc,rfl⟩:=pr_agg hpr
  obtain ⟨X3,hX3⟩:∃ X,X=w2.alloc (.cells #[.slice ta tn tc,.slice fa fk fc] 27):=⟨_,rfl⟩
  have hb3:Below w2.heap.size w2 X3:=by rw [hX3];exact alloc_below _ _
  have HX3:=hid hX3
  have HQ3:Hid (X3.heap[w2.heap.size]?=some (.cells #[.slice ta tn tc,.slice fa fk fc] 27 (0,0))):=by show _=_;rw [hX3];exact alloc_new _ _
  have HPN:=hid hpn
  have HB23:=hid hb3
  have HC:=hid (ShI.check_calls q _ X3 (hpr.below hb3) ((HT1.out.on hb2).on hb3) HOK.out.1 HOK.out.2)
  have HSZ:Hid (w2.heap.size < X3.heap.size):=by show _ < _;rw [hX3];simp
  have HB3:=hid (HB1.out.trans ((hb2.mono (Nat.le_of_lt HS1.out)).trans (hb3.mono (by have:=HS1.out;have:=hb2.size;omega))))
  have HN3:=hid ((hb3.block _ (by have:=HS1.out;have:=hb2.size;omega)).trans ((hb2.block _ HS1.out).trans HN1.out))
  have HS3:Hid (w.heap.size < w2.heap.size):=by have:=hb2.size;have:=HS1.out;show _ < _;omega
  have f0:=cells_of HQ3.out 0 _ rfl
  have f1:=cells_of HQ3.out 1 _ rfl
  rw [hX3] at f0 f1
  clear hb2 hb3 hX3 HPC HN1 HB1 hpr hpn HT1
  go_wp2_with fail
  rw [← HX3.out]
  clear HX3 f0 f1
  refine HC.out.mono ?_
  rintro e w4 ⟨rfl,hb4⟩
  have HB4:=hid (HB3.out.trans (hb4.mono (by have:=HS3.out;have:=HSZ.out;omega)))
  have HN4:=hid ((hb4.block _ (by have:=HS3.out;have:=HSZ.out;omega)).trans HN3.out)
  have HQ4:=hid ((hb4.block _ HSZ.out).trans HQ3.out)
  have HB34:=hid hb4
  clear hb4 HC HB3 HN3 HQ3
  generalize chkP q=ce at *
  by_cases hc:ce=0
  ·subst hc
   rw [if_pos rfl] at HE2
   have f0:=cells_of HQ4.out 0 _ rfl
   have f1:=cells_of HQ4.out 1 _ rfl
   have hn:=HN4.out
   have y0:=cells_of hn 0 _ rfl;have y1:=cells_of hn 1 _ rfl
   have hz:=(ShTB.cells_heap hn).2
   have z0:=hz 0;have z1:=hz 1
   obtain ⟨X5,hX5,hne5,hk5,hb5⟩:=set2_world w4 w.heap.size 27 (.slice none 0 0) (.slice none 0 0) (.slice ta tn tc) (.slice fa fk fc) hn
   have HX5:=hid hX5
   have HB5:=hid (hb5 w.heap.size w HB4.out (Nat.le_refl _))
   have x0:=cells_of hk5 0 _ rfl;have x1:=cells_of hk5 1 _ rfl
   have HPR5:Hid (PrAt X5 (.agg #[.slice ta tn tc,.slice fa fk fc]) q):=HPN.out X5 fun k h1 h2=>by
    have h3:=HS1.out
    have h4:=HSZ.out
    exact (hne5 k (by omega)).trans ((HB34.out.block k (by omega)).trans (HB23.out.block k h2))
   clear HN4 HQ4 HPN HB34 HB23
   clear hn hz hX5 hne5 hk5 hb5
   go_wp2
   (try simp only [Exit.inBlock,Exit.then])
   rw [← HX5.out]
   refine bodyPost_ret (by simp [results,Tryz.results24,go_sem,x0,x1];try rfl) rfl ?_
   exact ⟨_,by rw [HE2.out],by rw [HE2.out];exact HPR5.out,HB5.out⟩
  ·rw [if_neg hc] at HE2
   have hne:(ce != 0)=true:=by simpa using hc
   have hn:=HN4.out
   have y0:=cells_of hn 0 _ rfl;have y1:=cells_of hn 1 _ rfl
   have hz:=(ShTB.cells_heap hn).2
   have z0:=hz 0;have z1:=hz 1
   obtain ⟨X5,hX5,hne5,hk5,hb5⟩:=set2_world w4 w.heap.size 27 (.slice none 0 0) (.slice none 0 0) (.slice none 0 0) (.slice none 0 0) hn
   have HX5:=hid hX5
   have HB5:=hid (hb5 w.heap.size w HB4.out (Nat.le_refl _))
   have x0:=cells_of hk5 0 _ rfl;have x1:=cells_of hk5 1 _ rfl
   clear HN4 HQ4 hc
   clear hn hz hX5 hne5 hk5 hb5
   go_wp2
   (try simp only [Exit.inBlock,Exit.then])
   rw [← HX5.out]
   refine bodyPost_ret (by simp [results,Tryz.results24,go_sem,x0,x1];try rfl) rfl ?_
   exact ⟨_,by rw [HE2.out],by rw [HE2.out];exact pr_zero _,HB5.out⟩
end Go.Proofs.YtpejpnffcepdlaaGreatDoor.RcZ
namespace Go.Proofs.YtpejpnffcepdlaaGreatDoor.RdFa
open Go.RowKit Go.Lib RwO SetP IntO TyM TyP ShM ShP ShB LxM LxP LxK LxJ RdM RdV Aft RcP RcO RcT RcY RcZ
open ShI (POk chkP)

theorem read_zero {l:List UInt8} {p:Px} (h:readO l=(0,p)):lnE l=0∧programP (mkL (lnT l))=some p∧chkP p=0:=by
 unfold readO at h
 by_cases h0:lnE l=0
 ·rw [if_pos h0] at h
  cases hp:programP (mkL (lnT l)) with
  | none=>rw [hp] at h;cases h
  | some q =>
   rw [hp] at h
   simp only at h
   by_cases hc:chkP q=0
   ·rw [if_pos hc] at h;cases h;exact ⟨h0,rfl,hc⟩
   ·rw [if_neg hc] at h
    exact absurd (congrArg Prod.fst h) hc
 ·rw [if_neg h0] at h
  exact absurd (congrArg Prod.fst h) h0
end Go.Proofs.YtpejpnffcepdlaaGreatDoor.RdFa
namespace Go.Proofs.YtpejpnffcepdlaaGreatDoor.SyI
open Go.RowKit Go.Lib RwO SetP IntO TyM TyP TyB ShM ShP ShB LxM LxP LxK LxJ RdM RdV Aft RcP RcO RcT RcY RcZ RdFa FwQ FwR FwK FdQ SvQ SvK
open ShI (POk chkP)

def kL:List UInt8:=[116,121,112,101,32,105,110,116,10,116,121,112,101,32,112,116,114,32,116,48,10,116,121,112,101,32,115,116,114,117,99,116,32,116,48,32,116,49,10,116,121,112,101,32,112,116,114,32,116,50,10,116,121,112,101,32,97,114,114,97,121,32,116,48,32,50,10,116,121,112,101,32,112,116,114,32,116,52,10,116,121,112,101,32,102,110,32,116,48,10,116,121,112,101,32,102,110,32,116,48,32,116,49,10,116,121,112,101,32,112,116,114,32,116,49,10,102,117,110,99,32,116,54,10,98,108,111,99,107,10]
def tL:List UInt8:=[102,117,110,99,32,116,55,10,98,108,111,99,107,10,114,49,32,116,48,32,61,32,108,111,97,100,32,114,48,10,114,101,116,117,114,110,32,114,49,10]
def isB (l:List UInt8) (want:Int):Bool:=decide ((readO ((kL++l)++tL)).1=0) && decide (sndE (readO ((kL++l)++tL)).2=want)
theorem read_fine {l:List UInt8} {p:Px} (h:readO l=(0,p)):Small p∧POk p:=by
 obtain ⟨h0,h1,_⟩:=read_zero h
 exact prog_ok (fine_lines h0) h1
theorem is_calls (CC:CheckC) (l:List UInt8) (hl:l.length≤100000) (want:Int) (h:isB l want=true) (w:World) (hk:LxK.Tab w) (htab:ShA.Tab w) (hto:TabO w) :
  Calls Tryz.prog 8 #[.string (mk l),.int .i64 want] w (BoolR true w):=by
 have hkl:kL.length≤1000:=by decide
 have htl:tL.length≤1000:=by decide
 have hadd1:∀ wx,(Op.stringOp .add ⟨kL.toArray⟩ (mk l)).run Tryz.prog wx=.ok (.string (mk (kL++l))) wx:=fun wx=>run_string_add_lists wx kL l (by omega) (by omega)
 have hadd2:∀ wx,(Op.stringOp .add (mk (kL++l)) ⟨tL.toArray⟩).run Tryz.prog wx=.ok (.string (mk ((kL++l)++tL))) wx:=fun wx=>run_string_add_lists wx (kL++l) tL (by rw [List.length_append];omega) (by omega)
 have HR:=hid (read_calls (mk ((kL++l)++tL)) w hk htab hto)
 unfold isB at h
 obtain ⟨p,hp⟩:∃ p,readO ((kL++l)++tL)=(0,p)∧sndE p=want:=by
  simp only [Bool.and_eq_true,decide_eq_true_eq] at h
  exact ⟨(readO ((kL++l)++tL)).2,by rw [← h.1],h.2⟩
 obtain ⟨h1,h2⟩:=hp
 obtain ⟨hsm,hok⟩:=read_fine h1
 unfold ReadO at HR
 rw [show readO (un (mk ((kL++l)++tL)))=(0,p) from h1] at HR
 simp only at HR
 have HC:=hid (fun v wx (hb:Aft w wx) (hp:PrAt wx v p)=>CC p v wx hp (htab.on hb.below) hsm hok)
 rw [h2] at HC
 have hA:=Aft.refl w
 have ew:(want == want)=true:=by simp
 clear h h1 h2 hsm hok hk htab hto hkl htl hl
 generalize hx2:mk ((kL++l)++tL)=x2 at *
 generalize hx1:mk (kL++l)=x1 at *
 generalize hx0:mk l=x0 at *
 clear hx2 hx1 hx0
 unfold kL at hadd1
 unfold tL at hadd2
 go_enter Tryz.func8,Tryz.ntmps8
 go_wp2_with fail
 refine HR.out.mono ?_
 rintro e w1 ⟨v,rfl,hp,b1⟩
 obtain ⟨ta,tn,tc,fa,fn,fc,rfl⟩:=pr_agg hp
 obtain ⟨W2,hW2⟩:∃ W2,W2=w1.alloc (.cells #[.slice ta tn tc,.slice fa fn fc] 27):=⟨_,rfl⟩
 have k2:W2.heap[w1.heap.size]?=some (.cells #[.slice ta tn tc,.slice fa fn fc] 27 (0,0)):=by rw [hW2];exact alloc_new _ _
 have hA2:Aft w W2:=by rw [hW2];exact (hA.go b1).alloc _
 have hp2:PrAt W2 (.agg #[.slice ta tn tc,.slice fa fn fc]) p:=by rw [hW2];exact hp.below (ShP.alloc_below _ _)
 have c0:=later_cells k2 0 _ rfl
 have c1:=later_cells k2 1 _ rfl
 have hr:=Aft.refl W2
 have HD:=hid (HC.out _ W2 hA2 hp2)
 have HW2:=hid hW2
 have HA2:=hid hA2
 clear hW2 hA2 hp2 hp b1 k2 HC HR hA hadd1 hadd2
 go_upto_region 2 with fail
 rw [← HW2.out]
 go_wp2_with fail
 refine HD.out.mono ?_
 rintro e w3 ⟨rfl,hb3⟩
 have HE:=hid (HA2.out.go hb3).below
 clear HD hb3 c0 c1 hr HA2
 go_wp2
 go_ret
 exact ⟨rfl,HE.out⟩
end Go.Proofs.YtpejpnffcepdlaaGreatDoor.SyI
namespace Go.Proofs.YtpejpnffcepdlaaGreatDoor.SyQ
open Go.RowKit Go.Lib SetP IntO TyM TyP TyB ShM ShP ShB PgB RcZ SvQ SyP SyI
open ShI (POk chkP)

def chapqP:Px:=⟨[⟨1,0,0,[]⟩,⟨3,0,0,[]⟩],[⟨1,[⟨[⟨1,0,0,0,5,[],[]⟩],⟨1,0,1,0⟩⟩,⟨[⟨21,0,0,0,0,[],[]⟩],⟨3,0,0,0⟩⟩]⟩]⟩
theorem chapq_at {W:World} {b2 b4 b6 b7 b8:Nat} (k2:W.heap[b2]?=some (.cells #[.int .u8 1,.int .i64 0,.int .i64 0,.int .i64 0,.int .i64 5,.slice none 0 0,.slice none 0 0] 31 (0,0))) (k4:W.heap[b4]?=some (.cells #[.int .u8 21,.int .i64 0,.int .i64 0,.int .i64 0,.int .i64 0,.slice none 0 0,.slice none 0 0] 31 (0,0))) (k6:W.heap[b6]?=some (.cells #[.int .u8 1,.int .i64 0,.int .i64 0,.slice none 0 0,.int .u8 3,.int .i64 0,.int .i64 0,.slice none 0 0] 43 (0,0))) (k7:W.heap[b7]?=some (.cells #[.slice (some ⟨b2,0,none⟩) 1 1,.int .u8 1,.int .i64 0,.int .i64 1,.int .i64 0,.slice (some ⟨b4,0,none⟩) 1 1,.int .u8 3,.int .i64 0,.int .i64 0,.int .i64 0] 38 (0,0))) (k8:W.heap[b8]?=some (.cells #[.int .i64 1,.slice (some ⟨b7,0,none⟩) 2 2] 41 (0,0))):PrAt W (.agg #[.slice (some ⟨b6,0,none⟩) 2 2,.slice (some ⟨b8,0,none⟩) 1 1]) chapqP:=by
 have i0:InsAt W (.slice (some ⟨b2,0,none⟩) 1 1) [⟨1,0,0,0,5,[],[]⟩]:=row_block (lt_of k2) rfl (by simp) fun i h=>by
  obtain rfl:i=0:=by have:i < 1:=h;omega
  exact ⟨_,_,cells_of k2 0 _ rfl,cells_of k2 1 _ rfl,cells_of k2 2 _ rfl,cells_of k2 3 _ rfl,cells_of k2 4 _ rfl,cells_of k2 5 _ rfl,cells_of k2 6 _ rfl,ints_none W,ints_none W⟩
 have i1:InsAt W (.slice (some ⟨b4,0,none⟩) 1 1) [⟨21,0,0,0,0,[],[]⟩]:=row_block (lt_of k4) rfl (by simp) fun i h=>by
  obtain rfl:i=0:=by have:i < 1:=h;omega
  exact ⟨_,_,cells_of k4 0 _ rfl,cells_of k4 1 _ rfl,cells_of k4 2 _ rfl,cells_of k4 3 _ rfl,cells_of k4 4 _ rfl,cells_of k4 5 _ rfl,cells_of k4 6 _ rfl,ints_none W,ints_none W⟩
 have i2:BlksAt W (.slice (some ⟨b7,0,none⟩) 2 2) _:=row_block (l:=[⟨[⟨1,0,0,0,5,[],[]⟩],⟨1,0,1,0⟩⟩,⟨[⟨21,0,0,0,0,[],[]⟩],⟨3,0,0,0⟩⟩]) (lt_of k7) rfl (by simp) fun i h=>by
  have hi:i=0∨i=1:=by have:i < 2:=h;omega
  rcases hi with rfl | rfl
  ·exact ⟨_,cells_of k7 0 _ rfl,cells_of k7 1 _ rfl,cells_of k7 2 _ rfl,cells_of k7 3 _ rfl,cells_of k7 4 _ rfl,i0⟩
  ·exact ⟨_,cells_of k7 5 _ rfl,cells_of k7 6 _ rfl,cells_of k7 7 _ rfl,cells_of k7 8 _ rfl,cells_of k7 9 _ rfl,i1⟩
 refine ⟨_,_,rfl,?_,?_⟩
 ·refine tys_blk (l:=(chapqP).types) (lt_of k6) rfl (by simp [chapqP]) fun i h=>?_
  have hi:i=0∨i=1:=by have:i < 2:=h;omega
  rcases hi with rfl | rfl
  ·exact ⟨_,cells_of k6 0 _ rfl,cells_of k6 1 _ rfl,cells_of k6 2 _ rfl,cells_of k6 3 _ rfl,ints_none W⟩
  ·exact ⟨_,cells_of k6 4 _ rfl,cells_of k6 5 _ rfl,cells_of k6 6 _ rfl,cells_of k6 7 _ rfl,ints_none W⟩
 ·refine row_block (l:=(chapqP).funcs) (lt_of k8) rfl (by simp [chapqP]) fun i h=>?_
  obtain rfl:i=0:=by have:i < 1:=h;omega
  exact ⟨_,cells_of k8 0 _ rfl,cells_of k8 1 _ rfl,i2⟩
def chaprP:Px:=⟨[⟨1,0,0,[]⟩,⟨3,0,0,[0]⟩],[⟨1,[⟨[⟨1,0,0,0,5,[],[]⟩],⟨1,0,1,0⟩⟩,⟨[⟨4,0,0,0,0,[],[]⟩],⟨3,1,0,0⟩⟩]⟩]⟩
theorem chapr_at {W:World} {b2 b4 b6 b7 b8 b9:Nat} (k2:W.heap[b2]?=some (.cells #[.int .u8 1,.int .i64 0,.int .i64 0,.int .i64 0,.int .i64 5,.slice none 0 0,.slice none 0 0] 31 (0,0))) (k4:W.heap[b4]?=some (.cells #[.int .u8 4,.int .i64 0,.int .i64 0,.int .i64 0,.int .i64 0,.slice none 0 0,.slice none 0 0] 31 (0,0))) (k6:W.heap[b6]?=some (.cells #[.int .u8 1,.int .i64 0,.int .i64 0,.slice none 0 0,.int .u8 3,.int .i64 0,.int .i64 0,.slice (some ⟨b9,0,none⟩) 1 1] 43 (0,0))) (k7:W.heap[b7]?=some (.cells #[.slice (some ⟨b2,0,none⟩) 1 1,.int .u8 1,.int .i64 0,.int .i64 1,.int .i64 0,.slice (some ⟨b4,0,none⟩) 1 1,.int .u8 3,.int .i64 1,.int .i64 0,.int .i64 0] 38 (0,0))) (k8:W.heap[b8]?=some (.cells #[.int .i64 1,.slice (some ⟨b7,0,none⟩) 2 2] 41 (0,0))) (k9:W.heap[b9]?=some (.cells #[.int .i64 0] 3 (0,0))):PrAt W (.agg #[.slice (some ⟨b6,0,none⟩) 2 2,.slice (some ⟨b8,0,none⟩) 1 1]) chaprP:=by
 have i0:InsAt W (.slice (some ⟨b2,0,none⟩) 1 1) [⟨1,0,0,0,5,[],[]⟩]:=row_block (lt_of k2) rfl (by simp) fun i h=>by
  obtain rfl:i=0:=by have:i < 1:=h;omega
  exact ⟨_,_,cells_of k2 0 _ rfl,cells_of k2 1 _ rfl,cells_of k2 2 _ rfl,cells_of k2 3 _ rfl,cells_of k2 4 _ rfl,cells_of k2 5 _ rfl,cells_of k2 6 _ rfl,ints_none W,ints_none W⟩
 have i1:InsAt W (.slice (some ⟨b4,0,none⟩) 1 1) [⟨4,0,0,0,0,[],[]⟩]:=row_block (lt_of k4) rfl (by simp) fun i h=>by
  obtain rfl:i=0:=by have:i < 1:=h;omega
  exact ⟨_,_,cells_of k4 0 _ rfl,cells_of k4 1 _ rfl,cells_of k4 2 _ rfl,cells_of k4 3 _ rfl,cells_of k4 4 _ rfl,cells_of k4 5 _ rfl,cells_of k4 6 _ rfl,ints_none W,ints_none W⟩
 have i2:BlksAt W (.slice (some ⟨b7,0,none⟩) 2 2) _:=row_block (l:=[⟨[⟨1,0,0,0,5,[],[]⟩],⟨1,0,1,0⟩⟩,⟨[⟨4,0,0,0,0,[],[]⟩],⟨3,1,0,0⟩⟩]) (lt_of k7) rfl (by simp) fun i h=>by
  have hi:i=0∨i=1:=by have:i < 2:=h;omega
  rcases hi with rfl | rfl
  ·exact ⟨_,cells_of k7 0 _ rfl,cells_of k7 1 _ rfl,cells_of k7 2 _ rfl,cells_of k7 3 _ rfl,cells_of k7 4 _ rfl,i0⟩
  ·exact ⟨_,cells_of k7 5 _ rfl,cells_of k7 6 _ rfl,cells_of k7 7 _ rfl,cells_of k7 8 _ rfl,cells_of k7 9 _ rfl,i1⟩
 refine ⟨_,_,rfl,?_,?_⟩
 ·refine tys_blk (l:=(chaprP).types) (lt_of k6) rfl (by simp [chaprP]) fun i h=>?_
  have hi:i=0∨i=1:=by have:i < 2:=h;omega
  rcases hi with rfl | rfl
  ·exact ⟨_,cells_of k6 0 _ rfl,cells_of k6 1 _ rfl,cells_of k6 2 _ rfl,cells_of k6 3 _ rfl,ints_none W⟩
  ·exact ⟨_,cells_of k6 4 _ rfl,cells_of k6 5 _ rfl,cells_of k6 6 _ rfl,cells_of k6 7 _ rfl,ints_blk (l:=[0]) k9 rfl rfl (by decide)⟩
 ·refine row_block (l:=(chaprP).funcs) (lt_of k8) rfl (by simp [chaprP]) fun i h=>?_
  obtain rfl:i=0:=by have:i < 1:=h;omega
  exact ⟨_,cells_of k8 0 _ rfl,cells_of k8 1 _ rfl,i2⟩
theorem chapq_small:Small chapqP:=⟨by decide,by decide,by decide,by decide,by decide,by decide⟩
theorem chapq_ok:POk chapqP:=by unfold POk;decide
theorem chapr_small:Small chaprP:=⟨by decide,by decide,by decide,by decide,by decide,by decide⟩
theorem chapr_ok:POk chaprP:=by unfold POk;decide
theorem no_small:Small px0:=⟨by decide,by decide,by decide,by decide,by decide,by decide⟩
theorem no_ok:POk px0:=by unfold POk;decide
theorem kn1:kindN (chapP 4 0 0 0 0) 0 1=0:=by decide +kernel
theorem ke1:kindE (chapP 4 0 0 0 0) 0 1=0:=by decide +kernel
theorem kn2:kindN (chapP 4 0 0 0 0) 0 2=0:=by decide +kernel
theorem ke2:kindE (chapP 4 0 0 0 0) 0 2=2:=by decide +kernel
theorem kn3:kindN chapqP 0 1=0:=by decide +kernel
theorem ke3:kindE chapqP 0 1=6:=by decide +kernel
theorem se1:sndE px0=60:=by decide +kernel
theorem se2:sndE chaprP=120:=by decide +kernel
def s0:List UInt8:=[114,48,32,116,51,32,61,32,110,101,119,10,114,49,32,116,56,32,61,32,102,105,101,108,100,32,114,48,32,49,10,114,50,32,116,49,32,61,32,108,111,97,100,32,114,49,10,114,51,32,116,48,32,61,32,99,97,108,108,32,102,49,32,114,50,10,114,52,32,116,55,32,61,32,102,110,32,102,49,10,114,53,32,116,48,32,61,32,105,99,97,108,108,32,114,52,32,114,50,10,115,116,111,114,101,32,114,49,32,114,50,10,102,114,101,101,32,114,48,10,114,101,116,117,114,110,32,114,53,10]
theorem t0:isB s0 0=true:=by decide +kernel
def s1:List UInt8:=[114,48,32,116,48,32,61,32,105,110,116,32,49,10,114,49,32,116,53,32,61,32,108,111,99,97,108,10,114,50,32,116,49,32,61,32,101,108,101,109,32,114,49,32,114,48,10,115,116,111,114,101,32,114,50,32,114,48,10,114,52,32,116,48,32,61,32,115,97,109,101,32,114,50,32,114,50,10,112,114,105,110,116,32,114,52,10,114,54,32,116,48,32,61,32,114,101,97,100,10,114,55,32,116,55,32,61,32,110,117,108,108,10,114,101,116,117,114,110,32,114,54,10]
theorem t1:isB s1 0=true:=by decide +kernel
def s2:List UInt8:=[114,48,32,116,48,32,61,32,105,110,116,32,49,10,106,117,109,112,32,98,49,10,98,108,111,99,107,10,114,49,32,116,48,32,61,32,112,104,105,32,98,48,32,114,48,32,98,49,32,114,50,10,114,50,32,116,48,32,61,32,97,100,100,32,114,49,32,114,48,10,98,114,97,110,99,104,32,114,50,32,98,49,32,98,50,10,98,108,111,99,107,10,114,101,116,117,114,110,32,114,49,10]
theorem t2:isB s2 0=true:=by decide +kernel
def s3:List UInt8:=[114,48,32,116,51,32,61,32,110,101,119,10,114,49,32,116,49,32,61,32,102,105,101,108,100,32,114,48,32,49,10,114,50,32,116,48,32,61,32,108,111,97,100,32,114,49,10,114,101,116,117,114,110,32,114,50,10]
theorem t3:isB s3 120=true:=by decide +kernel
def s4:List UInt8:=[114,48,32,116,49,32,61,32,110,101,119,10,115,116,111,114,101,32,114,48,32,114,48,10,114,50,32,116,48,32,61,32,108,111,97,100,32,114,48,10,114,101,116,117,114,110,32,114,50,10]
theorem t4:isB s4 120=true:=by decide +kernel
def s5:List UInt8:=[114,48,32,116,49,32,61,32,110,101,119,10,114,101,116,117,114,110,32,114,48,10]
theorem t5:isB s5 120=true:=by decide +kernel
def s6:List UInt8:=[114,48,32,116,48,32,61,32,105,110,116,32,49,10,114,49,32,116,48,32,61,32,99,97,108,108,32,102,49,32,114,48,10,114,101,116,117,114,110,32,114,48,10]
theorem t6:isB s6 120=true:=by decide +kernel
def s7:List UInt8:=[114,48,32,116,48,32,61,32,105,110,116,32,49,10,106,117,109,112,32,98,48,10]
theorem t7:isB s7 120=true:=by decide +kernel
def s8:List UInt8:=[114,48,32,116,48,32,61,32,105,110,116,32,49,10,114,101,116,117,114,110,32,114,48,10,98,108,111,99,107,10,114,101,116,117,114,110,32,114,48,10]
theorem t8:isB s8 120=true:=by decide +kernel
def s9:List UInt8:=[114,48,32,116,48,32,61,32,105,110,116,32,49,10,106,117,109,112,32,98,49,10,98,108,111,99,107,10,114,49,32,116,48,32,61,32,112,104,105,32,98,49,32,114,48,10,114,101,116,117,114,110,32,114,49,10]
theorem t9:isB s9 120=true:=by decide +kernel
def s10:List UInt8:=[114,48,32,116,48,32,61,32,105,110,116,32,49,10,112,114,105,110,116,32,114,48,10,114,50,32,116,48,32,61,32,97,100,100,32,114,49,32,114,48,10,114,101,116,117,114,110,32,114,48,10]
theorem t10:isB s10 120=true:=by decide +kernel
def s11:List UInt8:=[114,48,32,116,48,32,61,32,105,110,116,32,49,10,106,117,109,112,32,98,49,10,98,108,111,99,107,10,112,114,105,110,116,32,114,48,10,114,50,32,116,48,32,61,32,112,104,105,32,98,48,32,114,48,10,114,101,116,117,114,110,32,114,48,10]
theorem t11:isB s11 120=true:=by decide +kernel
def s12:List UInt8:=[114,48,32,116,51,32,61,32,110,117,108,108,10,114,49,32,116,51,32,61,32,108,111,97,100,32,114,48,10,114,50,32,116,48,32,61,32,105,110,116,32,49,10,114,101,116,117,114,110,32,114,50,10]
theorem t12:isB s12 120=true:=by decide +kernel
end Go.Proofs.YtpejpnffcepdlaaGreatDoor.SyQ
namespace Go.Proofs.YtpejpnffcepdlaaGreatDoor.SyN
open Go.RowKit Go.Lib RwO SetP IntO TyM TyP TyB ShM ShP ShB ShJ LxP LxK LxJ RdM PgB Aft RcP RcO RcT RcY RcZ FwQ FwR FwK FdQ SvQ SvK SyP SyA SyI SyQ
open ShI (POk chkP)

theorem walk_of (CC:CheckC) (CK:KindC) (W:World) (hk:LxK.Tab W) (htab:ShA.Tab W) (hto:TabO W):Calls Tryz.prog 3 #[] W fun e W'=>e=.returned (.bool true)∧Below W.heap.size W W':=by
 have HT:=hid htab
 have J0:=hid (fun wx (h:Aft W wx)=>is_calls CC s0 (by decide) 0 t0 wx (LxK.tab_on hk h.below) (htab.on h.below) (hto.on h.below))
 have J1:=hid (fun wx (h:Aft W wx)=>is_calls CC s1 (by decide) 0 t1 wx (LxK.tab_on hk h.below) (htab.on h.below) (hto.on h.below))
 have J2:=hid (fun wx (h:Aft W wx)=>is_calls CC s2 (by decide) 0 t2 wx (LxK.tab_on hk h.below) (htab.on h.below) (hto.on h.below))
 have J3:=hid (fun wx (h:Aft W wx)=>is_calls CC s3 (by decide) 120 t3 wx (LxK.tab_on hk h.below) (htab.on h.below) (hto.on h.below))
 have J4:=hid (fun wx (h:Aft W wx)=>is_calls CC s4 (by decide) 120 t4 wx (LxK.tab_on hk h.below) (htab.on h.below) (hto.on h.below))
 have J5:=hid (fun wx (h:Aft W wx)=>is_calls CC s5 (by decide) 120 t5 wx (LxK.tab_on hk h.below) (htab.on h.below) (hto.on h.below))
 have J6:=hid (fun wx (h:Aft W wx)=>is_calls CC s6 (by decide) 120 t6 wx (LxK.tab_on hk h.below) (htab.on h.below) (hto.on h.below))
 have J7:=hid (fun wx (h:Aft W wx)=>is_calls CC s7 (by decide) 120 t7 wx (LxK.tab_on hk h.below) (htab.on h.below) (hto.on h.below))
 have J8:=hid (fun wx (h:Aft W wx)=>is_calls CC s8 (by decide) 120 t8 wx (LxK.tab_on hk h.below) (htab.on h.below) (hto.on h.below))
 have J9:=hid (fun wx (h:Aft W wx)=>is_calls CC s9 (by decide) 120 t9 wx (LxK.tab_on hk h.below) (htab.on h.below) (hto.on h.below))
 have J10:=hid (fun wx (h:Aft W wx)=>is_calls CC s10 (by decide) 120 t10 wx (LxK.tab_on hk h.below) (htab.on h.below) (hto.on h.below))
 have J11:=hid (fun wx (h:Aft W wx)=>is_calls CC s11 (by decide) 120 t11 wx (LxK.tab_on hk h.below) (htab.on h.below) (hto.on h.below))
 have J12:=hid (fun wx (h:Aft W wx)=>is_calls CC s12 (by decide) 120 t12 wx (LxK.tab_on hk h.below) (htab.on h.below) (hto.on h.below))
 have JA:=hid (fun wx (h:Aft W wx)=>alive_of CC wx (htab.on h.below))
 unfold s0 mk at J0
 unfold s1 mk at J1
 unfold s2 mk at J2
 unfold s3 mk at J3
 unfold s4 mk at J4
 unfold s5 mk at J5
 unfold s6 mk at J6
 unfold s7 mk at J7
 unfold s8 mk at J8
 unfold s9 mk at J9
 unfold s10 mk at J10
 unfold s11 mk at J11
 unfold s12 mk at J12
 have a0:=Aft.refl W
 clear hk htab hto
 go_enter Tryz.func3,Tryz.ntmps3
 go_wp2_with fail
 refine (J0.out _ a0).mono ?_
 rintro e w1 ⟨rfl,hb⟩
 have a1:=a0.go hb
 clear hb a0 J0
 go_wp2_with fail
 refine (J1.out _ a1).mono ?_
 rintro e w2 ⟨rfl,hb⟩
 have a2:=a1.go hb
 clear hb a1 J1
 go_wp2_with fail
 refine (J2.out _ a2).mono ?_
 rintro e w3 ⟨rfl,hb⟩
 have a3:=a2.go hb
 clear hb a2 J2
 go_wp2_with fail
 refine (J3.out _ a3).mono ?_
 rintro e w4 ⟨rfl,hb⟩
 have a4:=a3.go hb
 clear hb a3 J3
 go_wp2_with fail
 refine (J4.out _ a4).mono ?_
 rintro e w5 ⟨rfl,hb⟩
 have a5:=a4.go hb
 clear hb a4 J4
 go_wp2_with fail
 refine (J5.out _ a5).mono ?_
 rintro e w6 ⟨rfl,hb⟩
 have a6:=a5.go hb
 clear hb a5 J5
 go_wp2_with fail
 refine (J6.out _ a6).mono ?_
 rintro e w7 ⟨rfl,hb⟩
 have a7:=a6.go hb
 clear hb a6 J6
 go_wp2_with fail
 refine (J7.out _ a7).mono ?_
 rintro e w8 ⟨rfl,hb⟩
 have a8:=a7.go hb
 clear hb a7 J7
 go_wp2_with fail
 refine (J8.out _ a8).mono ?_
 rintro e w9 ⟨rfl,hb⟩
 have a9:=a8.go hb
 clear hb a8 J8
 go_wp2_with fail
 refine (J9.out _ a9).mono ?_
 rintro e w10 ⟨rfl,hb⟩
 have a10:=a9.go hb
 clear hb a9 J9
 go_wp2_with fail
 refine (J10.out _ a10).mono ?_
 rintro e w11 ⟨rfl,hb⟩
 have a11:=a10.go hb
 clear hb a10 J10
 go_wp2_with fail
 refine (J11.out _ a11).mono ?_
 rintro e w12 ⟨rfl,hb⟩
 have a12:=a11.go hb
 clear hb a11 J11
 go_wp2_with fail
 refine (J12.out _ a12).mono ?_
 rintro e w13 ⟨rfl,hb⟩
 have a13:=a12.go hb
 clear hb a12 J12
 go_wp2_with fail
 refine (chap_calls 4 0 0 0 0 _).mono ?_
 rintro e wp ⟨v,rfl,hp,hb⟩
 obtain ⟨ta,tn,tc,fa,fn,fc,rfl⟩:=pr_agg hp
 obtain ⟨X1,hX1⟩:∃ X1,X1=wp.alloc (.cells #[.slice ta tn tc,.slice fa fn fc] 27):=⟨_,rfl⟩
 have kx:X1.heap[wp.heap.size]?=some (.cells #[.slice ta tn tc,.slice fa fn fc] 27 (0,0)):=by rw [hX1];exact alloc_new _ _
 have x1:Aft W X1:=by rw [hX1];exact (a13.go hb).alloc _
 have hp1:PrAt X1 (.agg #[.slice ta tn tc,.slice fa fn fc]) (chapP 4 0 0 0 0):=by rw [hX1];exact hp.below (ShP.alloc_below _ _)
 have HP1:=hid hp1
 have l0:=later_cells kx 0 _ rfl
 have l1:=later_cells kx 1 _ rfl
 have hr:=Aft.refl X1
 have HX:=hid hX1
 have D1:=hid (CK (chapP 4 0 0 0 0) 0 1 _ X1 HP1.out (HT.out.on x1.below) one_small one_ok ⟨by decide,by decide⟩ ⟨by decide,by decide⟩)
 rw [kn1,ke1] at D1
 clear hb hp hX1 kx a13 hp1
 go_upto_region 5 with fail
 rw [← HX.out]
 go_wp2_with fail
 refine D1.out.mono ?_
 rintro e wq ⟨rfl,hb⟩
 have hr1:=hr.go hb
 have D2:=hid (CK (chapP 4 0 0 0 0) 0 2 _ wq (HP1.out.below hr1.below) (HT.out.on (x1.trans hr1).below) one_small one_ok ⟨by decide,by decide⟩ ⟨by decide,by decide⟩)
 rw [kn2,ke2] at D2
 clear D1 hb HP1 hr
 go_wp2_with fail
 refine D2.out.mono ?_
 rintro e wa ⟨rfl,hb⟩
 have y0:=x1.trans (hr1.go hb)
 clear D2 hb x1 hr1 l0 l1 HX
 go_wp2_with fail
 refine (chap_world 21 0 0 0 0 _).mono ?_
 rintro e u1 ⟨rfl,hw0⟩
 obtain ⟨V1,hV⟩:∃ V,V=(u1.alloc (.cells #[.slice (some ⟨wa.heap.size+1+1+1+1+1+1,0,none⟩) 2 2,.slice (some ⟨wa.heap.size+1+1+1+1+1+1+1+1,0,none⟩) 1 1] 27)):=⟨_,rfl⟩
 have hb0:Below wa.heap.size wa u1:=by rw [hw0];exact chap_below 21 0 0 0 0 _
 have hbV:Below u1.heap.size u1 V1:=by rw [hV];exact ShP.alloc_below _ _
 have kb:V1.heap[u1.heap.size]?=some (.cells #[.slice (some ⟨wa.heap.size+1+1+1+1+1+1,0,none⟩) 2 2,.slice (some ⟨wa.heap.size+1+1+1+1+1+1+1+1,0,none⟩) 1 1] 27 (0,0)):=by rw [hV];exact alloc_new _ _
 have hz:u1.heap.size=wa.heap.size+1+1+1+1+1+1+1+1+1:=by rw [hw0];exact chap_size 21 0 0 0 0 _
 have k2:=keepBlk hbV (by rw [hw0];exact chap_h2 21 0 0 0 0 wa)
 have k4:=keepBlk hbV (by rw [hw0];exact chap_h4 21 0 0 0 0 wa)
 have k6:=keepBlk hbV (by rw [hw0];exact chap_h6 21 0 0 0 0 wa)
 have k7:=keepBlk hbV (by rw [hw0];exact chap_h7 21 0 0 0 0 wa)
 have k8:=keepBlk hbV (by rw [hw0];exact chap_h8 21 0 0 0 0 wa)
 have q0:=cells_of kb 0 _ rfl
 have q1:=cells_of kb 1 _ rfl
 have HV:=hid hV
 have HWA:=hid (hb0.trans (hbV.mono hb0.size))
 have HYA:=hid y0
 have HB1:=hid (y0.go (hb0.trans (hbV.mono hb0.size)))
 have q8:=cells_of k8 1 _ rfl
 have q7:=cells_of k7 7 _ rfl
 have z7:V1.frozen? ⟨wa.heap.size+1+1+1+1+1+1+1,7,none⟩=false:=(ShTB.cells_heap k7).2 7
 have HK:=hid (And.intro kb (And.intro k2 (And.intro k4 (And.intro k6 (And.intro k7 k8)))))
 have HZ:=hid hz
 clear hw0 hV hb0 hbV kb hz k2 k4 k6 k7 k8 y0
 go_upto_region 8 with fail
 rw [← HV.out]
 go_upto_region 9 with fail
 obtain ⟨X,hX⟩:∃ X,X=V1.setCell ⟨wa.heap.size+1+1+1+1+1+1+1,7,none⟩ (.int .i64 0):=⟨_,rfl⟩
 rw [← hX]
 obtain ⟨kb,k2,k4,k6,k7,k8⟩:=HK.out
 have hz:=HZ.out
 have hne:∀ b,b≠wa.heap.size+1+1+1+1+1+1+1→X.heap[b]?=V1.heap[b]?:=fun b h=>by rw [hX];exact Below.heap_setCell _ _ _ b h
 have j2:=(hne _ (by omega)).trans k2
 have j4:=(hne _ (by omega)).trans k4
 have j6:=(hne _ (by omega)).trans k6
 have j8:=(hne _ (by omega)).trans k8
 have jb:=(hne u1.heap.size (by omega)).trans kb
 have j7:=ShTB.set_heap' (i:=7) (.int .i64 0) k7
 rw [← hX] at j7
 simp only [Array.setIfInBounds,List.size_toArray,List.length_cons,List.length_nil,List.set_toArray,List.set_cons_succ,List.set_cons_zero] at j7
 have HPX:=hid (chapq_at j2 j4 j6 j7 j8)
 have hB0:Aft wa X:=by rw [hX];exact ((Aft.refl wa).go HWA.out).set (by show wa.heap.size≤wa.heap.size+1+1+1+1+1+1+1;omega) _
 have y1:Aft W X:=HYA.out.trans hB0
 have l0:=later_cells jb 0 _ rfl
 have l1:=later_cells jb 1 _ rfl
 have hr:=Aft.refl X
 clear hX hne j2 j4 j6 j7 j8 jb k2 k4 k6 k7 k8 kb hz q0 q1 q7 q8 z7 HK HV HB1 HWA HYA hB0
 have D3:=hid (CK chapqP 0 1 _ X HPX.out (HT.out.on y1.below) chapq_small chapq_ok ⟨by decide,by decide⟩ ⟨by decide,by decide⟩)
 rw [kn3,ke3] at D3
 go_wp2_with fail
 refine D3.out.mono ?_
 rintro e wc ⟨rfl,hb⟩
 have y2:=y1.go hb
 clear D3 hb y1 hr l0 l1 HPX
 go_wp2_with fail
 refine (chap_world 4 0 0 0 0 _).mono ?_
 rintro e u2 ⟨rfl,hw0⟩
 obtain ⟨V2,hV⟩:∃ V,V=(u2.alloc (.cells #[.slice (some ⟨wc.heap.size+1+1+1+1+1+1,0,none⟩) 2 2,.slice (some ⟨wc.heap.size+1+1+1+1+1+1+1+1,0,none⟩) 1 1] 27)):=⟨_,rfl⟩
 have hb0:Below wc.heap.size wc u2:=by rw [hw0];exact chap_below 4 0 0 0 0 _
 have hbV:Below u2.heap.size u2 V2:=by rw [hV];exact ShP.alloc_below _ _
 have kb:V2.heap[u2.heap.size]?=some (.cells #[.slice (some ⟨wc.heap.size+1+1+1+1+1+1,0,none⟩) 2 2,.slice (some ⟨wc.heap.size+1+1+1+1+1+1+1+1,0,none⟩) 1 1] 27 (0,0)):=by rw [hV];exact alloc_new _ _
 have hz:u2.heap.size=wc.heap.size+1+1+1+1+1+1+1+1+1:=by rw [hw0];exact chap_size 4 0 0 0 0 _
 have k2:=keepBlk hbV (by rw [hw0];exact chap_h2 4 0 0 0 0 wc)
 have k4:=keepBlk hbV (by rw [hw0];exact chap_h4 4 0 0 0 0 wc)
 have k6:=keepBlk hbV (by rw [hw0];exact chap_h6 4 0 0 0 0 wc)
 have k7:=keepBlk hbV (by rw [hw0];exact chap_h7 4 0 0 0 0 wc)
 have k8:=keepBlk hbV (by rw [hw0];exact chap_h8 4 0 0 0 0 wc)
 have q0:=cells_of kb 0 _ rfl
 have q1:=cells_of kb 1 _ rfl
 have HV:=hid hV
 have HWA:=hid (hb0.trans (hbV.mono hb0.size))
 have HYA:=hid y2
 have HB1:=hid (y2.go (hb0.trans (hbV.mono hb0.size)))
 have q6:=cells_of k6 7 _ rfl
 have hz2:V2.heap.size=u2.heap.size+1:=by rw [hV];simp only [World.size_alloc]
 obtain ⟨V3,hV3⟩:∃ V3,V3=V2.alloc (.cells #[.int .i64 0] 3):=⟨_,rfl⟩
 have hb3:Below V2.heap.size V2 V3:=by rw [hV3];exact ShP.alloc_below _ _
 have k9:V3.heap[V2.heap.size]?=some (.cells #[.int .i64 0] 3 (0,0)):=by rw [hV3];exact alloc_new _ _
 have m6:=keepBlk hb3 k6
 have z6:(V2.alloc (.cells #[.int .i64 0] 3)).frozen? ⟨wc.heap.size+1+1+1+1+1+1,7,none⟩=false:=by rw [← hV3];exact (ShTB.cells_heap m6).2 7
 have p6:(V2.alloc (.cells #[.int .i64 0] 3)).cell? ⟨wc.heap.size+1+1+1+1+1+1,7,none⟩=some (.slice none 0 0):=by rw [← hV3];exact cells_of m6 7 _ rfl
 have HK:=hid (And.intro (keepBlk hb3 kb) (And.intro (keepBlk hb3 k2) (And.intro (keepBlk hb3 k4) (And.intro m6 (And.intro (keepBlk hb3 k7) (keepBlk hb3 k8))))))
 have HK9:=hid k9
 have HZ:=hid hz
 have HZ2:=hid hz2
 have HV3:=hid hV3
 have HB3:=hid hb3
 clear hw0 hV hb0 hbV kb hz k2 k4 k6 k7 k8 y2 hV3 hb3 k9 m6 hz2
 go_upto_region 11 with fail
 rw [← HV.out]
 go_upto_region 12 with fail
 rw [← HV3.out]
 obtain ⟨X2,hX⟩:∃ X,X=V3.setCell ⟨wc.heap.size+1+1+1+1+1+1,7,none⟩ (.slice (some ⟨V2.heap.size,0,none⟩) 1 1):=⟨_,rfl⟩
 rw [← hX]
 obtain ⟨kb,k2,k4,k6,k7,k8⟩:=HK.out
 have k9:=HK9.out
 have hz:=HZ.out
 have hz2:=HZ2.out
 have hne:∀ b,b≠wc.heap.size+1+1+1+1+1+1→X2.heap[b]?=V3.heap[b]?:=fun b h=>by rw [hX];exact Below.heap_setCell _ _ _ b h
 have j2:=(hne _ (by omega)).trans k2
 have j4:=(hne _ (by omega)).trans k4
 have j7:=(hne _ (by omega)).trans k7
 have j8:=(hne _ (by omega)).trans k8
 have j9:=(hne _ (by omega)).trans k9
 have jb:=(hne u2.heap.size (by omega)).trans kb
 have j6:=ShTB.set_heap' (i:=7) (.slice (some ⟨V2.heap.size,0,none⟩) 1 1) k6
 rw [← hX] at j6
 simp only [Array.setIfInBounds,List.size_toArray,List.length_cons,List.length_nil,List.set_toArray,List.set_cons_succ,List.set_cons_zero] at j6
 have HPX:=hid (chapr_at j2 j4 j6 j7 j8 j9)
 have hB0:Aft wc X2:=by rw [hX];exact (((Aft.refl wc).go HWA.out).go HB3.out).set (by show wc.heap.size≤wc.heap.size+1+1+1+1+1+1;omega) _
 have y3:Aft W X2:=HYA.out.trans hB0
 have l0:=later_cells jb 0 _ rfl
 have l1:=later_cells jb 1 _ rfl
 have hr:=Aft.refl X2
 clear hX hne j2 j4 j6 j7 j8 j9 jb k2 k4 k6 k7 k8 k9 kb hz hz2 q0 q1 q6 z6 p6 HK HV HB1 HWA HYA hB0 HK9 HV3 HB3 HZ HZ2
 have DA:=hid (JA.out X2 y3)
 go_wp2_with fail
 refine DA.out.mono ?_
 rintro e wd ⟨rfl,hb⟩
 have hr1:=hr.go hb
 have y4:=y3.go hb
 have D4:=hid (CC px0 _ wd (pr_zero wd) (HT.out.on y4.below) no_small no_ok)
 rw [se1] at D4
 clear DA hb hr JA y3
 go_wp2_with fail
 refine D4.out.mono ?_
 rintro e we ⟨rfl,hb⟩
 have hr2:=hr1.go hb
 have y5:=y4.go hb
 have D5:=hid (CC chaprP _ we (HPX.out.below hr2.below) (HT.out.on y5.below) chapr_small chapr_ok)
 rw [se2] at D5
 clear D4 hb hr1 y4
 go_wp2_with fail
 refine D5.out.mono ?_
 rintro e wf ⟨rfl,hb⟩
 have HE:=hid (y5.go hb).below
 clear D5 hb hr2 y5 l0 l1
 go_wp2
 go_ret
 exact ⟨rfl,HE.out⟩
end Go.Proofs.YtpejpnffcepdlaaGreatDoor.SyN
