/- Plain facts on what the reference's Read comes to. -/
import Derived.Test.YtbebficgcemkoaaGreatDoorYNumP
import Derived.RowKit
namespace Go.Proofs.YtbebficgcemkoaaGreatDoor.NumQ
open Go.RowKit Go.Lib NumP

theorem wrap64_i64 (x:Int):I64 (wrap64 x):=by unfold wrap64 I64;omega

def atOf (l:List UInt8):Nat:=if (l.headD 0).toNat=45 then 1 else 0
theorem atOf_le (l:List UInt8):atOf l≤1:=by unfold atOf;split<;>omega
def fin (at0:Nat) (v:Nat):Int:=if at0=1 then wrap64 (-(wrap64 v)) else wrap64 v
theorem fin_one (v:Nat):fin 1 v=wrap64 (-(wrap64 v)):=by unfold fin;exact if_pos rfl
theorem fin_zero (v:Nat):fin 0 v=wrap64 v:=by unfold fin;exact if_neg (by decide)
theorem fin_i64 (at0 v:Nat):I64 (fin at0 v):=by unfold fin;split<;>exact wrap64_i64 _

theorem atOf_neg {n:Int} (h:n < 0):atOf (itoa n)=1∧(itoa n).drop 1=decDigits n.natAbs:=by
 rw [itoa_ng h];exact ⟨by simp [atOf],rfl⟩
theorem atOf_pos {n:Int} (h:0≤n):atOf (itoa n)=0∧(itoa n).drop 0=decDigits n.natAbs:=by
 rw [itoa_nn h,natAbs_toNat h]
 refine ⟨?_,rfl⟩
 cases hd:decDigits n.toNat with
 | nil=>exact absurd hd (dec_ne _)
 | cons c t =>
  have hc:=dec_digs n.toNat c (by rw [hd];simp)
  rw [isDig_iff] at hc
  simp [atOf];omega
theorem at_cases (n:Int):(n < 0∧atOf (itoa n)=1∧(itoa n).drop (atOf (itoa n))=decDigits n.natAbs)∨(0≤n∧atOf (itoa n)=0∧(itoa n).drop (atOf (itoa n))=decDigits n.natAbs):=by
 by_cases h:n < 0
 ·have:=atOf_neg h
  exact .inl ⟨h,this.1,by rw [this.1];exact this.2⟩
 ·have:=atOf_pos (n:=n) (by omega)
  exact .inr ⟨by omega,this.1,by rw [this.1];exact this.2⟩

theorem fin_itoa {n:Int} (hn:I64 n):fin (atOf (itoa n)) (val ((itoa n).drop (atOf (itoa n))))=n:=by
 have h1:=hn.1
 have h2:=hn.2
 rcases at_cases n with ⟨h,ha,hd⟩ | ⟨h,ha,hd⟩<;>rw [hd,ha,val_dec]<;>simp only [fin,wrap64]
 ·simp only [if_true];omega
 ·rw [if_neg (by omega)];omega

theorem rd_fin (l:List UInt8):rd l=if itoa (fin (atOf l) (val (l.drop (atOf l))))=l then (fin (atOf l) (val (l.drop (atOf l))),0) else (0,10):=by
 split
 ·rename_i h
  exact rd_of (fin_i64 _ _) h
 ·rename_i h
  refine rd_none fun n hn e=>h ?_
  subst e
  rw [fin_itoa hn]
theorem rd_long {l:List UInt8} (h:l.length < 1∨20 < l.length):rd l=(0,10):=by
 refine rd_none fun n hn e=>?_
 have:=itoa_length n hn
 rw [e] at this;omega
theorem rd_long2 {l:List UInt8} (h:19 < l.length - atOf l):rd l=(0,10):=by
 refine rd_none fun n hn e=>?_
 subst e
 have h1:=digs_le n hn
 rcases at_cases n with ⟨_,_,hd⟩ | ⟨_,_,hd⟩<;>· rw [← hd,List.length_drop] at h1;omega
theorem rd_nondig {l:List UInt8} {k:Nat} (h1:atOf l≤k) (h2:k < l.length) (h:isDig (l.getD k 0)=false):rd l=(0,10):=by
 refine rd_none fun n hn e=>?_
 subst e
 have hm:(itoa n).getD k 0∈decDigits n.natAbs:=by
  rcases at_cases n with ⟨_,_,hd⟩ | ⟨_,_,hd⟩ <;>
  ·rw [← hd]
   generalize atOf (itoa n)=a at *
   refine List.mem_iff_getElem.2 ⟨k - a,by rw [List.length_drop];omega,?_⟩
   rw [List.getElem_drop]
   simp only [show a+(k - a)=k by omega]
   simp [List.getD_eq_getElem?_getD,List.getElem?_eq_getElem h2]
 have:=dec_digs n.natAbs _ hm
 rw [h] at this;cases this
def seg (l:List UInt8) (a k:Nat):List UInt8:=(l.drop a).take (k - a)
theorem seg_snoc {l:List UInt8} {a k:Nat} (h1:a≤k) (h2:k < l.length):seg l a (k+1)=seg l a k++[l.getD k 0]:=by
 unfold seg
 rw [show k+1 - a=(k - a)+1 by omega,List.take_succ_eq_append_getElem (by rw [List.length_drop];omega),List.getElem_drop]
 simp only [show a+(k - a)=k by omega]
 simp [List.getD_eq_getElem?_getD,List.getElem?_eq_getElem h2]
theorem seg_all (l:List UInt8) (a:Nat):seg l a l.length=l.drop a:=by
 unfold seg;exact List.take_of_length_le (by rw [List.length_drop];exact Nat.le_refl _)
theorem seg_nil (l:List UInt8) (a:Nat):seg l a a=[]:=by unfold seg;simp
theorem seg_length (l:List UInt8) (a k:Nat) (h1:k≤l.length):(seg l a k).length=k - a:=by
 unfold seg;rw [List.length_take,List.length_drop];omega
end Go.Proofs.YtbebficgcemkoaaGreatDoor.NumQ
