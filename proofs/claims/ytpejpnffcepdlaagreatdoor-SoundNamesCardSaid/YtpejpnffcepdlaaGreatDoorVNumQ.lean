/- Plain facts on what the reference's Read comes to. -/
import Derived.Test.YtpejpnffcepdlaaGreatDoorVNumP
import Derived.RowKit
namespace Go.Proofs.YtpejpnffcepdlaaGreatDoor.NumQ
open Go.RowKit Go.Lib NumP

def atOf (l:List UInt8):Nat:=if (l.headD 0).toNat=45 then 1 else 0
theorem atOf_le (l:List UInt8):atOf l≤1:=by unfold atOf;split<;>omega
def fin (at0:Nat) (v:Nat):Int:=if at0=1 then wrap64 (-(wrap64 v)) else wrap64 v
theorem atOf_neg {n:Int} (h:n < 0):atOf (itoa n)=1∧(itoa n).drop 1=decDigits n.natAbs:=by
 rw [itoa_ng h];exact ⟨by simp [atOf],rfl⟩
theorem atOf_pos {n:Int} (h:0≤n):atOf (itoa n)=0∧(itoa n).drop 0=decDigits n.natAbs:=by
 rw [itoa_nn h,natAbs_toNat h]
 refine ⟨?_,rfl⟩
 cases hd:decDigits n.toNat with
 | nil=>exact absurd hd (dec_ne _)
 | cons c t =>
  have hc:=dec_digs n.toNat c (by rw [hd];simp)
  rw [isDig_iff] at hc
  simp [atOf];omega
theorem at_cases (n:Int):(n < 0∧atOf (itoa n)=1∧(itoa n).drop (atOf (itoa n))=decDigits n.natAbs)∨(0≤n∧atOf (itoa n)=0∧(itoa n).drop (atOf (itoa n))=decDigits n.natAbs):=by
 by_cases h:n < 0
 ·have:=atOf_neg h
  exact .inl ⟨h,this.1,by rw [this.1];exact this.2⟩
 ·have:=atOf_pos (n:=n) (by omega)
  exact .inr ⟨by omega,this.1,by rw [this.1];exact this.2⟩

end Go.Proofs.YtpejpnffcepdlaaGreatDoor.NumQ
