/- Walks over shape.row, rowEnd, Answers, told. Walk over shape.Answers. -/
import Derived.Test.YtpejpnffcepdlaaGreatDoorYTyBToTyTI
import Derived.BigGuardPart
import Derived.Handy
namespace Go.Proofs.YtpejpnffcepdlaaGreatDoor.ShA
open Go.RowKit Go.Lib SetP IntO TyM TyP TyB ShM ShP

abbrev hasV (x:Has):Value:=.agg #[.int .u8 x.typ,.int .u8 x.a,.int .u8 x.b,.int .u8 x.n,.int .i64 x.least,.int .i64 x.most,.int .i64 x.per]
abbrev hasEV (x:HasE):Value:=.agg #[.int .u8 x.a,.int .u8 x.to,.int .u8 x.els]

def TabH (g:Nat) (tab:List Has) (w:World):Prop :=
 ∀ i (_:i < tab.length),w.cell? ⟨g,i * 7,none⟩=some (.int .u8 tab[i].typ)∧w.cell? ⟨g,i * 7+1,none⟩=some (.int .u8 tab[i].a)∧w.cell? ⟨g,i * 7+2,none⟩=some (.int .u8 tab[i].b)∧w.cell? ⟨g,i * 7+3,none⟩=some (.int .u8 tab[i].n) ∧
  w.cell? ⟨g,i * 7+4,none⟩=some (.int .i64 tab[i].least)∧w.cell? ⟨g,i * 7+5,none⟩=some (.int .i64 tab[i].most)∧w.cell? ⟨g,i * 7+6,none⟩=some (.int .i64 tab[i].per)
def TabE (g:Nat) (tab:List HasE) (w:World):Prop :=
 ∀ i (_:i < tab.length),w.cell? ⟨g,i * 3,none⟩=some (.int .u8 tab[i].a)∧w.cell? ⟨g,i * 3+1,none⟩=some (.int .u8 tab[i].to)∧w.cell? ⟨g,i * 3+2,none⟩=some (.int .u8 tab[i].els)
def Tab (w:World):Prop:=TabH 0 rowsH w∧TabE 1 rowsE w
theorem tabH_on {g:Nat} {tab:List Has} {w w1:World} (h:TabH g tab w) (hb:Below w.heap.size w w1):TabH g tab w1:=by
 intro i hi
 obtain ⟨h0,h1,h2,h3,h4,h5,h6⟩:=h i hi
 exact ⟨keep_below hb h0,keep_below hb h1,keep_below hb h2,keep_below hb h3,keep_below hb h4,keep_below hb h5,keep_below hb h6⟩
theorem tabE_on {g:Nat} {tab:List HasE} {w w1:World} (h:TabE g tab w) (hb:Below w.heap.size w w1):TabE g tab w1:=by
 intro i hi
 obtain ⟨h0,h1,h2⟩:=h i hi
 exact ⟨keep_below hb h0,keep_below hb h1,keep_below hb h2⟩
theorem Tab.on {w w1:World} (h:Tab w) (hb:Below w.heap.size w w1):Tab w1:=⟨tabH_on h.1 hb,tabE_on h.2 hb⟩

def ValR (v:Value) (w:World) (e:Ending) (w' : World):Prop:=e=.returned v∧Below w.heap.size w w'

theorem row_in (k:Nat) (hk:k < 23) (x:Has) (w:World) (hlt:0 < w.heap.size)
  (c0:w.cell? ⟨0,k * 7,none⟩=some (.int .u8 x.typ)) (c1:w.cell? ⟨0,k * 7+1,none⟩=some (.int .u8 x.a)) (c2:w.cell? ⟨0,k * 7+2,none⟩=some (.int .u8 x.b)) (c3:w.cell? ⟨0,k * 7+3,none⟩=some (.int .u8 x.n))
  (c4:w.cell? ⟨0,k * 7+4,none⟩=some (.int .i64 x.least)) (c5:w.cell? ⟨0,k * 7+5,none⟩=some (.int .i64 x.most)) (c6:w.cell? ⟨0,k * 7+6,none⟩=some (.int .i64 x.per)) :
  Calls Tryz.prog 46 #[.int .u8 k] w (ValR (hasV x) w):=by
 go_enter Tryz.func46,Tryz.ntmps46
 go_wp2
 go_returns
 exact ⟨rfl,alloc_below _ _⟩
theorem row_out (op:Int) (h0:0≤op) (h2:op≤255) (hk:¬ op < 23) (w:World):Calls Tryz.prog 46 #[.int .u8 op] w (ValR (hasV has0) w):=by
 go_enter Tryz.func46,Tryz.ntmps46
 go_wp2
 go_returns
 exact ⟨rfl,alloc_below _ _⟩
theorem has_at (tab:List Has) (k:Nat) (h:k < tab.length):(tab[k]?).getD has0=tab[k]:=by simp [h]
theorem row_calls (op:Int) (h0:0≤op) (h2:op≤255) (w:World) (ht:Tab w):Calls Tryz.prog 46 #[.int .u8 op] w (ValR (hasV (hasOf op)) w):=by
 by_cases h:23≤op
 ·rw [hasOf_over h];exact row_out op h0 h2 (by omega) w
 ·obtain ⟨k,rfl⟩:∃ k:Nat,op=k:=⟨op.toNat,by omega⟩
  have hk:k < 23:=by omega
  have hl:k < rowsH.length:=hk
  obtain ⟨c0,c1,c2,c3,c4,c5,c6⟩:=ht.1 k hl
  have:hasOf (k:Int)=rowsH[k]:=has_at rowsH k hl
  rw [this]
  exact row_in k hk _ w (World.block_lt_of_cell? w _ c0) c0 c1 c2 c3 c4 c5 c6
theorem rowE_in (k:Nat) (hk:k < 4) (x:HasE) (w:World) (hlt:1 < w.heap.size)
  (c0:w.cell? ⟨1,k * 3,none⟩=some (.int .u8 x.a)) (c1:w.cell? ⟨1,k * 3+1,none⟩=some (.int .u8 x.to)) (c2:w.cell? ⟨1,k * 3+2,none⟩=some (.int .u8 x.els)) :
  Calls Tryz.prog 137 #[.int .u8 k] w (ValR (hasEV x) w):=by
 go_enter Tryz.func137,Tryz.ntmps137
 go_wp2
 go_returns
 exact ⟨rfl,alloc_below _ _⟩
theorem rowE_out (op:Int) (h0:0≤op) (h2:op≤255) (hk:¬ op < 4) (w:World):Calls Tryz.prog 137 #[.int .u8 op] w (ValR (hasEV hasE0) w):=by
 go_enter Tryz.func137,Tryz.ntmps137
 go_wp2
 go_returns
 exact ⟨rfl,alloc_below _ _⟩
theorem hasE_at (tab:List HasE) (k:Nat) (h:k < tab.length):(tab[k]?).getD hasE0=tab[k]:=by simp [h]
theorem rowE_calls (op:Int) (h0:0≤op) (h2:op≤255) (w:World) (ht:Tab w):Calls Tryz.prog 137 #[.int .u8 op] w (ValR (hasEV (hasEOf op)) w):=by
 by_cases h:4≤op
 ·rw [hasEOf_over h];exact rowE_out op h0 h2 (by omega) w
 ·obtain ⟨k,rfl⟩:∃ k:Nat,op=k:=⟨op.toNat,by omega⟩
  have hk:k < 4:=by omega
  have hl:k < rowsE.length:=hk
  obtain ⟨c0,c1,c2⟩:=ht.2 k hl
  have:hasEOf (k:Int)=rowsE[k]:=hasE_at rowsE k hl
  rw [this]
  exact rowE_in k hk _ w (World.block_lt_of_cell? w _ c0) c0 c1 c2

theorem field_has (w:World) (typ a b n least most per:Int):(Instr.field 89 (.agg #[.int .u8 typ,.int .u8 a,.int .u8 b,.int .u8 n,.int .i64 least,.int .i64 most,.int .i64 per]) 0).run Tryz.prog w=.ok (.int .u8 typ) w:=by kernel_rfl
theorem field_hasE (w:World) (a b c:Int):(Instr.field 210 (.agg #[.int .u8 a,.int .u8 b,.int .u8 c]) 0).run Tryz.prog w=.ok (.int .u8 a) w:=by kernel_rfl
abbrev limV (nt nr nf nb:Int):Value:=.agg #[.int .i64 1,.int .i64 0,.int .i64 nt,.int .i64 nr,.int .i64 nf,.int .i64 nb,.int .i64 8]

theorem told_calls (nt nr nf nb want n:Int) (h0:0≤want) (h6:want≤6) (w:World):Calls Tryz.prog 157 #[limV nt nr nf nb,.int .u8 want,.int .i64 n] w (ValR (.int .u8 (toldV (limL nt nr nf nb) want n)) w):=by
 have hw:want=0∨want=1∨want=2∨want=3∨want=4∨want=5∨want=6:=by omega
 by_cases h1:want=1
 ·subst h1
  have hv:toldV (limL nt nr nf nb) 1 n=1:=rfl
  rw [hv]
  go_enter Tryz.func157,Tryz.ntmps157
  go_wp2
  go_ret
  exact ⟨rfl,alloc_below _ _⟩
 ·have hv:toldV (limL nt nr nf nb) want n=if 0≤n∧n < (limL nt nr nf nb).getD want.toNat 0 then want else 7:=by
   unfold toldV toldB
   simp [h1]
  rw [hv]
  clear hv
  by_cases h2:0≤n
  ·rcases hw with rfl | rfl | rfl | rfl | rfl | rfl | rfl
   ·show Calls _ _ _ _ (ValR (.int .u8 (if 0≤n∧n < 1 then 0 else 7)) w)
    by_cases h3:n < 1
    ·rw [if_pos ⟨h2,h3⟩]
     go_enter Tryz.func157,Tryz.ntmps157
     go_wp2
     go_ret
     exact ⟨rfl,alloc_below _ _⟩
    ·rw [if_neg (fun h=>h3 h.2)]
     go_enter Tryz.func157,Tryz.ntmps157
     go_wp2
     go_ret
     exact ⟨rfl,alloc_below _ _⟩
   ·exact absurd rfl h1
   ·show Calls _ _ _ _ (ValR (.int .u8 (if 0≤n∧n < nt then 2 else 7)) w)
    by_cases h3:n < nt
    ·rw [if_pos ⟨h2,h3⟩]
     go_enter Tryz.func157,Tryz.ntmps157
     go_wp2
     go_ret
     exact ⟨rfl,alloc_below _ _⟩
    ·rw [if_neg (fun h=>h3 h.2)]
     go_enter Tryz.func157,Tryz.ntmps157
     go_wp2
     go_ret
     exact ⟨rfl,alloc_below _ _⟩
   ·show Calls _ _ _ _ (ValR (.int .u8 (if 0≤n∧n < nr then 3 else 7)) w)
    by_cases h3:n < nr
    ·rw [if_pos ⟨h2,h3⟩]
     go_enter Tryz.func157,Tryz.ntmps157
     go_wp2
     go_ret
     exact ⟨rfl,alloc_below _ _⟩
    ·rw [if_neg (fun h=>h3 h.2)]
     go_enter Tryz.func157,Tryz.ntmps157
     go_wp2
     go_ret
     exact ⟨rfl,alloc_below _ _⟩
   ·show Calls _ _ _ _ (ValR (.int .u8 (if 0≤n∧n < nf then 4 else 7)) w)
    by_cases h3:n < nf
    ·rw [if_pos ⟨h2,h3⟩]
     go_enter Tryz.func157,Tryz.ntmps157
     go_wp2
     go_ret
     exact ⟨rfl,alloc_below _ _⟩
    ·rw [if_neg (fun h=>h3 h.2)]
     go_enter Tryz.func157,Tryz.ntmps157
     go_wp2
     go_ret
     exact ⟨rfl,alloc_below _ _⟩
   ·show Calls _ _ _ _ (ValR (.int .u8 (if 0≤n∧n < nb then 5 else 7)) w)
    by_cases h3:n < nb
    ·rw [if_pos ⟨h2,h3⟩]
     go_enter Tryz.func157,Tryz.ntmps157
     go_wp2
     go_ret
     exact ⟨rfl,alloc_below _ _⟩
    ·rw [if_neg (fun h=>h3 h.2)]
     go_enter Tryz.func157,Tryz.ntmps157
     go_wp2
     go_ret
     exact ⟨rfl,alloc_below _ _⟩
   ·show Calls _ _ _ _ (ValR (.int .u8 (if 0≤n∧n < 8 then 6 else 7)) w)
    by_cases h3:n < 8
    ·rw [if_pos ⟨h2,h3⟩]
     go_enter Tryz.func157,Tryz.ntmps157
     go_wp2
     go_ret
     exact ⟨rfl,alloc_below _ _⟩
    ·rw [if_neg (fun h=>h3 h.2)]
     go_enter Tryz.func157,Tryz.ntmps157
     go_wp2
     go_ret
     exact ⟨rfl,alloc_below _ _⟩
  ·rw [if_neg (fun h=>h2 h.1)]
   have hw1:(want == 1)=false:=by simpa using h1
   go_enter Tryz.func157,Tryz.ntmps157
   go_wp2
   go_ret
   exact ⟨rfl,alloc_below _ _⟩

theorem told64_calls (nt nr nf nb want n:Int) (h0:0≤want) (h6:want≤6) (w:World):Calls Tryz.prog 159 #[limV nt nr nf nb,.int .u8 want,.int .i64 n] w (ValR (.int .u8 (toldV (limL nt nr nf nb) want n)) w):=by
 have hw:want=0∨want=1∨want=2∨want=3∨want=4∨want=5∨want=6:=by omega
 by_cases h1:want=1
 ·subst h1
  have hv:toldV (limL nt nr nf nb) 1 n=1:=rfl
  rw [hv]
  go_enter Tryz.func159,Tryz.ntmps159
  go_wp2
  go_ret
  exact ⟨rfl,alloc_below _ _⟩
 ·have hv:toldV (limL nt nr nf nb) want n=if 0≤n∧n < (limL nt nr nf nb).getD want.toNat 0 then want else 7:=by
   unfold toldV toldB
   simp [h1]
  rw [hv]
  clear hv
  by_cases h2:0≤n
  ·rcases hw with rfl | rfl | rfl | rfl | rfl | rfl | rfl
   ·show Calls _ _ _ _ (ValR (.int .u8 (if 0≤n∧n < 1 then 0 else 7)) w)
    by_cases h3:n < 1
    ·rw [if_pos ⟨h2,h3⟩]
     go_enter Tryz.func159,Tryz.ntmps159
     go_wp2
     go_ret
     exact ⟨rfl,alloc_below _ _⟩
    ·rw [if_neg (fun h=>h3 h.2)]
     go_enter Tryz.func159,Tryz.ntmps159
     go_wp2
     go_ret
     exact ⟨rfl,alloc_below _ _⟩
   ·exact absurd rfl h1
   ·show Calls _ _ _ _ (ValR (.int .u8 (if 0≤n∧n < nt then 2 else 7)) w)
    by_cases h3:n < nt
    ·rw [if_pos ⟨h2,h3⟩]
     go_enter Tryz.func159,Tryz.ntmps159
     go_wp2
     go_ret
     exact ⟨rfl,alloc_below _ _⟩
    ·rw [if_neg (fun h=>h3 h.2)]
     go_enter Tryz.func159,Tryz.ntmps159
     go_wp2
     go_ret
     exact ⟨rfl,alloc_below _ _⟩
   ·show Calls _ _ _ _ (ValR (.int .u8 (if 0≤n∧n < nr then 3 else 7)) w)
    by_cases h3:n < nr
    ·rw [if_pos ⟨h2,h3⟩]
     go_enter Tryz.func159,Tryz.ntmps159
     go_wp2
     go_ret
     exact ⟨rfl,alloc_below _ _⟩
    ·rw [if_neg (fun h=>h3 h.2)]
     go_enter Tryz.func159,Tryz.ntmps159
     go_wp2
     go_ret
     exact ⟨rfl,alloc_below _ _⟩
   ·show Calls _ _ _ _ (ValR (.int .u8 (if 0≤n∧n < nf then 4 else 7)) w)
    by_cases h3:n < nf
    ·rw [if_pos ⟨h2,h3⟩]
     go_enter Tryz.func159,Tryz.ntmps159
     go_wp2
     go_ret
     exact ⟨rfl,alloc_below _ _⟩
    ·rw [if_neg (fun h=>h3 h.2)]
     go_enter Tryz.func159,Tryz.ntmps159
     go_wp2
     go_ret
     exact ⟨rfl,alloc_below _ _⟩
   ·show Calls _ _ _ _ (ValR (.int .u8 (if 0≤n∧n < nb then 5 else 7)) w)
    by_cases h3:n < nb
    ·rw [if_pos ⟨h2,h3⟩]
     go_enter Tryz.func159,Tryz.ntmps159
     go_wp2
     go_ret
     exact ⟨rfl,alloc_below _ _⟩
    ·rw [if_neg (fun h=>h3 h.2)]
     go_enter Tryz.func159,Tryz.ntmps159
     go_wp2
     go_ret
     exact ⟨rfl,alloc_below _ _⟩
   ·show Calls _ _ _ _ (ValR (.int .u8 (if 0≤n∧n < 8 then 6 else 7)) w)
    by_cases h3:n < 8
    ·rw [if_pos ⟨h2,h3⟩]
     go_enter Tryz.func159,Tryz.ntmps159
     go_wp2
     go_ret
     exact ⟨rfl,alloc_below _ _⟩
    ·rw [if_neg (fun h=>h3 h.2)]
     go_enter Tryz.func159,Tryz.ntmps159
     go_wp2
     go_ret
     exact ⟨rfl,alloc_below _ _⟩
  ·rw [if_neg (fun h=>h2 h.1)]
   have hw1:(want == 1)=false:=by simpa using h1
   go_enter Tryz.func159,Tryz.ntmps159
   go_wp2
   go_ret
   exact ⟨rfl,alloc_below _ _⟩
end Go.Proofs.YtpejpnffcepdlaaGreatDoor.ShA
namespace Go.Proofs.YtpejpnffcepdlaaGreatDoor.ShA
open Go.RowKit Go.Lib SetP IntO TyM TyP TyB ShM ShP


theorem answers_calls (op:Int) (h0:0≤op) (h2:op≤255) (w:World) (ht:Tab w):Calls Tryz.prog 20 #[.int .u8 op] w (BoolR (answersB op) w):=by
 have HC:=hid (row_calls op h0 h2 w ht)
 rw [← (has_tells h0).1]
 clear ht
 generalize hasOf op=x at *
 obtain ⟨typ,a,b,n,least,most,per⟩:=x
 simp only [hasV] at *
 have HF:=fun w=>field_has w typ a b n least most per
 go_enter Tryz.func20,Tryz.ntmps20
 go_wp2_with fail
 refine HC.out.mono ?_
 rintro e w1 ⟨rfl,hb⟩
 clear HC
 go_wp2
 go_ret
 exact ⟨by simp [Bool.beq_eq_decide_eq],hb⟩
end Go.Proofs.YtpejpnffcepdlaaGreatDoor.ShA
