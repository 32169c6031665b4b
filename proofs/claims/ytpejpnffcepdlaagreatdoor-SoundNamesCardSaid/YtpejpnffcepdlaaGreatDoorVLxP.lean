/- Slices of one-cell elements in memory: lists of strings, and lists of lines; rows that a call owns; what is appended to them. -/
import Derived.Test.YtpejpnffcepdlaaGreatDoorRows
import Derived.WalkKit
import Derived.WalkSmall
import Derived.WalkSpells
import Derived.WalkLawsBesides
import Derived.Outline
import Derived.Lib.Hide
import Derived.Lib.Strings
import Derived.Deep.QuietTactic
import Derived.BigQuiet
import Derived.Below
import Derived.Laws.AppendOwn
import Derived.Laws.AppendOwnNone
namespace Go.Proofs.YtpejpnffcepdlaaGreatDoor.LxP
open Go.RowKit Go.Lib

def ListAt (w:World) (v:Value) (xs:List Value):Prop :=
 ∃ ao cap,v=.slice ao xs.length cap∧xs.length≤9223372036854775807 ∧
  (0 < xs.length→∃ b off,ao=some ⟨b,off,none⟩∧b < w.heap.size∧∀ i (h:i < xs.length),w.cell? ⟨b,off+i,none⟩=some xs[i])∧(ao=none→cap=0)∧xs.length≤cap
theorem ListAt.below {w w' : World} {v:Value} {s:List Value} (h:ListAt w v s) (hb:Below w.heap.size w w'):ListAt w' v s:=by
 obtain ⟨ao,cap,hv,hl,hm,hz⟩:=h
 refine ⟨ao,cap,hv,hl,fun h0=>?_,hz⟩
 obtain ⟨b,off,ha,hlt,hc⟩:=hm h0
 exact ⟨b,off,ha,Nat.lt_of_lt_of_le hlt hb.size,fun i hi=>(hb.cell (p:=⟨b,_,none⟩) hlt).trans (hc i hi)⟩
theorem ListAt.slice {w:World} {v:Value} {s:List Value} (h:ListAt w v s):∃ ao cap,v=.slice ao s.length cap∧s.length≤9223372036854775807:=by
 obtain ⟨ao,cap,hv,hl,_⟩:=h
 exact ⟨ao,cap,hv,hl⟩
theorem ListAt.len {w:World} {ao:Option Addr} {n cap:Nat} {s:List Value} (h:ListAt w (.slice ao n cap) s):n=s.length:=by
 obtain ⟨_,_,hv,_⟩:=h
 cases hv;rfl
theorem ListAt.cap {w:World} {ao:Option Addr} {n cap:Nat} {s:List Value} (h:ListAt w (.slice ao n cap) s):s.length≤cap:=by
 obtain ⟨_,_,hv,_,_,_,hc⟩:=h
 cases hv;exact hc
theorem ListAt.at {w:World} {ao:Option Addr} {n cap:Nat} {s:List Value} (h:ListAt w (.slice ao n cap) s) (k:Nat) (hk:k < s.length):∃ b off,ao=some ⟨b,off,none⟩∧b < w.heap.size∧w.cell? ⟨b,off+k,none⟩=some s[k]:=by
 obtain ⟨ao',cap',hv,hl,hm,hz⟩:=h
 cases hv
 obtain ⟨b,off,ha,hlt,hc⟩:=hm (by omega)
 exact ⟨b,off,ha,hlt,hc k hk⟩
theorem list_none (w:World):ListAt w (.slice none 0 0) []:=⟨none,0,rfl,by simp,(fun h=>by simp at h),(fun _=>rfl),by simp⟩
theorem list_one {w:World} {b:Nat} {u:Value} (h:w.cell? ⟨b,0,none⟩=some u) (hb:b < w.heap.size):ListAt w (.slice (some ⟨b,0,none⟩) 1 1) [u] :=
 ⟨some ⟨b,0,none⟩,1,rfl,by simp,fun _=>⟨b,0,rfl,hb,fun i hi=>by
  obtain rfl:i=0:=by simpa using hi
  simpa using h⟩,(fun h=>by cases h),by simp⟩
theorem list_of_owns {w:World} {B:Nat} {e:TypeId} {v:Value} {n:Nat} {l:List Value} (h:w.ownsRow B e 1 v n l) (hl:l.length≤9223372036854775807):ListAt w v l:=by
 obtain ⟨h1,h2⟩:=h
 obtain rfl:n=l.length:=by omega
 rcases h2 with ⟨rfl,h0⟩ | ⟨g,cap,cur,rfl,hb,hg,hnc,hcm,hcs,ht⟩
 ·exact ⟨none,0,by rw [h0],hl,fun h=>by omega,fun _=>rfl,by omega⟩
 ·refine ⟨some ⟨g,0,none⟩,cap,rfl,hl,fun _=>⟨g,0,rfl,(Array.getElem?_eq_some_iff.1 hg).1,fun i hi=>?_⟩,(fun h=>by cases h),hnc⟩
  unfold World.cell?
  rw [hg]
  have e:=congrArg (fun (t:List Value)=>t[i]?) ht
  rw [List.getElem?_take,if_pos (by omega),List.getElem?_eq_getElem hi] at e
  simpa using e
theorem list_news {w:World} {l:List Value} {b off:Nat} (hc:∀ i (h:i < l.length),w.cell? ⟨b,off+i,none⟩=some l[i]) :
  ∀ j u,l[j]?=some u→w.cell? ((⟨b,off,none⟩:Addr).add j)=some u:=by
 intro j u hj
 obtain ⟨hlt,hu⟩:=List.getElem?_eq_some_iff.1 hj
 have hadd:(⟨b,off,none⟩:Addr).add j=⟨b,off+j,none⟩:=by unfold Addr.add;split<;>simp_all
 rw [hadd,hc j hlt,hu]

theorem owns_base {w:World} {B B2:Nat} {e:TypeId} {size:Nat} {v:Value} {n:Nat} {xs:List Value} (h:w.ownsRow B2 e size v n xs) (hB:B≤B2):w.ownsRow B e size v n xs:=by
 obtain ⟨h1,h2⟩:=h
 refine ⟨h1,?_⟩
 rcases h2 with h2 | ⟨g,cap,cur,a,b,c⟩
 ·exact .inl h2
 ·exact .inr ⟨g,cap,cur,a,Nat.le_trans hB b,c⟩
theorem ownsRow_below {w w' : World} {base:Nat} {e:TypeId} {size:Nat} {v:Value} {n:Nat} {xs:List Value} (h:w.ownsRow base e size v n xs) (hb:Below w.heap.size w w'):w'.ownsRow base e size v n xs:=by
 obtain ⟨h1,h2⟩:=h
 refine ⟨h1,?_⟩
 rcases h2 with h2 | ⟨g,cap,cur,hv,hg,hh,r⟩
 ·exact .inl h2
 ·exact .inr ⟨g,cap,cur,hv,hg,(hb.block g (Array.getElem?_eq_some_iff.1 hh).1).trans hh,r⟩
theorem own_slice {w:World} {B m s:Nat} {e:TypeId} {v:Value} {xs:List Value} (h:w.ownsRow B e s v m xs):∃ a c,v=.slice a m c:=by
 rcases h.2 with ⟨rfl,h0⟩ | ⟨_,_,_,rfl,_⟩
 ·rw [h0];exact ⟨_,_,rfl⟩
 ·exact ⟨_,_,rfl⟩
theorem own_len {w:World} {B m:Nat} {e:TypeId} {v:Value} {l:List Value} (h:w.ownsRow B e 1 v m l):m=l.length:=by
 have:=h.1;omega
theorem own_kept {w w' : World} {B C m n s1 s2:Nat} {e f:TypeId} {u v:Value} {xs ys:List Value} (h:w.ownsRow B e s1 v n xs) (ho:w.ownsRow C f s2 u m ys) (hef:e≠f) (hg:w.grownBy w' u.ownBlock):w'.ownsRow B e s1 v n xs:=by
 refine h.kept hg ?_
 rcases ho.2 with ⟨rfl,_⟩ | ⟨g,cap,cur,rfl,_,hk,_⟩
 ·cases hxv:v.ownBlock with
  | none=>exact .inl rfl
  | some g=>exact .inr (by simp [Value.ownBlock])
 ·refine .inr fun hgg=>?_
  have hgg:v.ownBlock=some g:=hgg
  rcases h.2 with ⟨rfl,_⟩ | ⟨g1,_,_,rfl,_,h1,_⟩
  ·cases hgg
  ·obtain rfl:g1=g:=by simpa [Value.ownBlock] using hgg
   rw [h1] at hk
   simp at hk
   exact hef hk.2
theorem own_grown {B:Nat} {w0 w w' : World} {u:Value} {m:Nat} {xs:List Value} {ty:TypeId} {s:Nat} (hb:Below B w0 w) (ho:w.ownsRow B ty s u m xs) (hg:w.grownBy w' u.ownBlock) (hB:B≤w.heap.size):Below B w0 w' :=
 hb.grown hg hB fun g hgg=>(ho.lt g hgg).1
theorem ownsRow_lit (w:World) (cs:List Value) (ty:TypeId) (n:Nat) (h:cs.length=n) (hn:n≤maxLen):(w.alloc (.cells cs.toArray ty)).ownsRow w.heap.size ty 1 (.slice (some ⟨w.heap.size,0,none⟩) n n) n cs :=
 ⟨by omega,.inr ⟨w.heap.size,n,cs.toArray,rfl,Nat.le_refl _,heap_alloc_new w _,Nat.le_refl _,hn,by simp [h],by rw [Nat.mul_one,← h];simp⟩⟩
theorem alloc_below (w:World) (o:Obj):Below w.heap.size w (w.alloc o):=(Below.refl _ _).alloc (Nat.le_refl _) _
theorem bcell {W w1:World} (hb:Below W.heap.size W w1):(∀ b o,b < W.heap.size→w1.cell? ⟨b,o,none⟩=W.cell? ⟨b,o,none⟩) :=
 fun b o h=>hb.cell (p:=⟨b,o,none⟩) h

structure Elem (P:Program) (t e:TypeId) (z:Value) (bytes:Nat):Prop where
 ut:P.underlying t=some (.slice e)
 info:(P.info? e).map (fun i=>(i.zero,i.size,i.bytes))=some (some z,1,bytes)
 cell:z.cells.size=1
 small:bytes≤24

theorem wpList_append_list {P:Program} {ops:Array Oper} {rest:List Oper} {o:Oper} {a:Act} {w:World} {Q:Exit→Act→World→Prop} (hgd:o.guard=none) (s x:Operand)
  {t e:TypeId} {z:Value} {bytes:Nat} (E:Elem P t e z bytes)
  (ho:o.op=.call { callee:=.builtin .append,args:=#[s,x],argTypes:=#[t,t] })
  (base:Nat) (v0:Value) (hs:a.eval s=v0) (n:Nat) (xs:List Value) (hown:w.ownsRow base e 1 v0 n xs) (hn:n≤1000000) (v:Value) (l:List Value) (hx:a.eval x=v) (hl:ListAt w v l) (hone:∀ u∈l,u.oneCell'=true) (hll:l.length≤1000000) (hbase:base≤w.heap.size)
  (h:∀ v' w',w'.ownsRow base e 1 v' (n+l.length) (xs++l)→w.grownBy w' v0.ownBlock→wpList P ops Q rest (a.put o.dst v') w'):wpList P ops Q (o :: rest) a w:=by
 obtain ⟨i0,hi,hz0,hz1,hz2⟩:=info_parts E.info
 have hsm:=E.small
 obtain ⟨ao,cap,rfl,hlen,hm,hz,_⟩:=hl
 cases hao:ao with
 | none =>
  have hl0:l=[]:=by
   by_cases hp:0 < l.length
   ·obtain ⟨b,off,hb,_⟩:=hm hp
    rw [hao] at hb;cases hb
   ·exact List.eq_nil_of_length_eq_zero (by omega)
  subst hl0
  obtain rfl:=hz hao
  subst hao
  exact wpList_append_own_none hgd s x t ho base e i0 1 E.ut hi v0 n xs hs hown hx (h v0 w (by simpa using hown) ⟨rfl,rfl,rfl,Nat.le_refl _,fun _ _ _=>rfl⟩)
 | some ad =>
  subst hao
  have hnews:∀ j u,l[j]?=some u→w.cell? (ad.add j)=some u:=by
   by_cases hp:0 < l.length
   ·obtain ⟨b,off,hb,_,hc⟩:=hm hp
    cases hb
    exact list_news hc
   ·have hl0:l=[]:=List.eq_nil_of_length_eq_zero (by omega)
    subst hl0
    intro j u hj
    simp at hj
  refine wpList_append_own w hgd s x t ho base e i0 z 1 bytes E.ut hi hz0 hz1 hz2 E.cell (by decide) v0 n xs hs hown ad l.length cap l hx (by rw [Nat.mul_one]) hnews hone (by unfold maxLen;omega) ?_ hbase
   fun v' w' hown' hgrow _=>h v' w' hown' hgrow
  exact Nat.le_trans (Nat.mul_le_mul (show n+l.length≤2000000 by omega) hsm) (by decide)
theorem wpList_append_one {P:Program} {ops:Array Oper} {rest:List Oper} {o:Oper} {a:Act} {w:World} {Q:Exit→Act→World→Prop} (hgd:o.guard=none) (s x:Operand)
  {t e:TypeId} {z:Value} {bytes:Nat} (E:Elem P t e z bytes)
  (ho:o.op=.call { callee:=.builtin .append,args:=#[s,x],argTypes:=#[t,t] })
  (base:Nat) (v0:Value) (hs:a.eval s=v0) (n:Nat) (xs:List Value) (hown:w.ownsRow base e 1 v0 n xs) (hn:n≤1000000) (g:Nat) (u:Value) (hx:a.eval x=.slice (some ⟨g,0,none⟩) 1 1) (hc:w.cell? ⟨g,0,none⟩=some u) (hg:g < w.heap.size) (hone:u.oneCell'=true) (hbase:base≤w.heap.size)
  (h:∀ v' w',w'.ownsRow base e 1 v' (n+1) (xs++[u])→w.grownBy w' v0.ownBlock→wpList P ops Q rest (a.put o.dst v') w'):wpList P ops Q (o :: rest) a w :=
 wpList_append_list hgd s x E ho base v0 hs n xs hown hn _ [u] hx (list_one hc hg) (by simpa using hone) (by simp) hbase h

theorem elemS:Elem Tryz.prog 158 9 (.string ⟨#[]⟩) 16:=⟨Tryz.underlying158,by kernel_rfl,rfl,by decide⟩
theorem elemL:Elem Tryz.prog 121 158 (.slice none 0 0) 24:=⟨Tryz.underlying121,by kernel_rfl,rfl,by decide⟩

abbrev strs (l:List ByteArray):List Value:=l.map Value.string
def StrsAt (w:World) (v:Value) (l:List ByteArray):Prop:=ListAt w v (strs l)
theorem StrsAt.below {w w' : World} {v:Value} {s:List ByteArray} (h:StrsAt w v s) (hb:Below w.heap.size w w'):StrsAt w' v s:=ListAt.below h hb
theorem StrsAt.slice {w:World} {v:Value} {s:List ByteArray} (h:StrsAt w v s):∃ ao cap,v=.slice ao s.length cap∧s.length≤9223372036854775807:=by
 have:=ListAt.slice h
 simpa [strs] using this
theorem StrsAt.at {w:World} {ao:Option Addr} {n cap:Nat} {s:List ByteArray} (h:StrsAt w (.slice ao n cap) s) (k:Nat) (hk:k < s.length):∃ b off,ao=some ⟨b,off,none⟩∧b < w.heap.size∧w.cell? ⟨b,off+k,none⟩=some (.string s[k]):=by
 have:=ListAt.at h k (by simpa [strs] using hk)
 simpa [strs] using this
abbrev Rw:=List ByteArray × Value
def LinesAt (w:World) (v:Value) (ls:List (List ByteArray)):Prop:=∃ r:List Rw,r.map Prod.fst=ls∧ListAt w v (r.map Prod.snd)∧∀ x∈r,StrsAt w x.2 x.1
theorem LinesAt.below {w w' : World} {v:Value} {s:List (List ByteArray)} (h:LinesAt w v s) (hb:Below w.heap.size w w'):LinesAt w' v s:=by
 obtain ⟨r,h1,h2,h3⟩:=h
 exact ⟨r,h1,h2.below hb,fun x hx=>(h3 x hx).below hb⟩
theorem LinesAt.slice {w:World} {v:Value} {s:List (List ByteArray)} (h:LinesAt w v s):∃ ao cap,v=.slice ao s.length cap∧s.length≤9223372036854775807:=by
 obtain ⟨r,rfl,h2,_⟩:=h
 have:=ListAt.slice h2
 simpa using this
theorem LinesAt.at {w:World} {ao:Option Addr} {n cap:Nat} {s:List (List ByteArray)} (h:LinesAt w (.slice ao n cap) s) (k:Nat) (hk:k < s.length):∃ b off pv,ao=some ⟨b,off,none⟩∧b < w.heap.size∧w.cell? ⟨b,off+k,none⟩=some pv∧StrsAt w pv s[k]:=by
 obtain ⟨r,rfl,h2,h3⟩:=h
 have hk' : k < r.length:=by simpa using hk
 obtain ⟨b,off,ha,hb,hc⟩:=ListAt.at h2 k (by simpa using hk')
 refine ⟨b,off,r[k].2,ha,hb,by simpa using hc,?_⟩
 have:=h3 r[k] (List.getElem_mem hk')
 simpa using this

def OwnL (B:Nat) (u:Value) (r:List Rw) (w:World):Prop :=
 w.ownsRow B 158 1 u r.length (r.map Prod.snd)∧∀ x∈r,w.ownsRow B 9 1 x.2 x.1.length (strs x.1)
theorem OwnL.below {B:Nat} {u:Value} {r:List Rw} {w w' : World} (h:OwnL B u r w) (hb:Below w.heap.size w w'):OwnL B u r w':=⟨ownsRow_below h.1 hb,fun x hx=>ownsRow_below (h.2 x hx) hb⟩
theorem OwnL.base {B C:Nat} {u:Value} {r:List Rw} {w:World} (h:OwnL B u r w) (hb:C≤B):OwnL C u r w:=⟨owns_base h.1 hb,fun x hx=>owns_base (h.2 x hx) hb⟩
theorem OwnL.nil (B:Nat) (w:World):OwnL B (.slice none 0 0) [] w:=⟨World.ownsRow_nil _ _ _ _,by simp⟩
theorem OwnL.lines {B:Nat} {u:Value} {r:List Rw} {w:World} (h:OwnL B u r w) (h1:r.length≤9223372036854775807) (h2:∀ x∈r,x.1.length≤9223372036854775807):LinesAt w u (r.map Prod.fst) :=
 ⟨r,rfl,list_of_owns h.1 (by simpa using h1),fun x hx=>list_of_owns (h.2 x hx) (by simpa [strs] using h2 x hx)⟩
theorem OwnL.snoc {B:Nat} {u u' : Value} {r:List Rw} {w w' : World} {x:Rw} (h:OwnL B u r w) (hx:w.ownsRow B 9 1 x.2 x.1.length (strs x.1)) (hg:w.grownBy w' u.ownBlock)
  (ho:w'.ownsRow B 158 1 u' (r.length+1) (r.map Prod.snd++[x.2])):OwnL B u' (r++[x]) w':=by
 refine ⟨by simpa using ho,fun y hy=>?_⟩
 rcases List.mem_append.1 hy with hy | hy
 ·exact own_kept (h.2 y hy) h.1 (by decide) hg
 ·rw [List.mem_singleton.1 hy];exact own_kept hx h.1 (by decide) hg
end Go.Proofs.YtpejpnffcepdlaaGreatDoor.LxP
