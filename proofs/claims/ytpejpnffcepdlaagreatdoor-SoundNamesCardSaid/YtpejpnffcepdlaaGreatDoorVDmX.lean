/- Small whole numbers as floats: how they stand to each other, and back. -/
import Derived.Laws.Cover2
import Derived.Laws.FloatArith
namespace Go.Proofs.YtpejpnffcepdlaaGreatDoor.DmX

def fl (n:Int):Nat:=floatOfInt .f64 n
def ordOk (a b:Int):Bool:=decide (FloatKind.f64.format.order (fl a) (fl b)=some (compare a b))
theorem tab_real:(List.range 18).all (fun a=>(List.range 18).all fun b=>ordOk ((a:Int) - 1) ((b:Int) - 1))=true:=by decide +kernel
theorem tab_back:(List.range 18).all (fun a=>decide (floatToIntVal .f64 (fl ((a:Int) - 1)) .i64=some ((a:Int) - 1)))=true:=by decide +kernel
theorem minus_one:fl (-1)=13830554455654793216:=by decide +kernel
theorem tab_imag:(List.range 132).all (fun a=>(List.range 132).all fun b=>ordOk (a:Int) (b:Int))=true:=by decide +kernel
theorem all_get {n:Nat} {q:Nat→Bool} (h:(List.range n).all q=true) {i:Nat} (hi:i < n):q i=true:=List.all_eq_true.1 h i (List.mem_range.2 hi)
theorem ord_real {a b:Int} (a0 : -1≤a) (a1:a < 17) (b0 : -1≤b) (b1:b < 17):FloatKind.f64.format.order (fl a) (fl b)=some (compare a b):=by
 have:=all_get (all_get tab_real (i:=(a+1).toNat) (by omega)) (i:=(b+1).toNat) (by omega)
 have e1:(((a+1).toNat:Nat):Int) - 1=a:=by omega
 have e2:(((b+1).toNat:Nat):Int) - 1=b:=by omega
 rw [e1,e2] at this
 exact of_decide_eq_true this
theorem ord_imag {a b:Int} (a0:0≤a) (a1:a < 132) (b0:0≤b) (b1:b < 132):FloatKind.f64.format.order (fl a) (fl b)=some (compare a b):=by
 have:=all_get (all_get tab_imag (i:=a.toNat) (by omega)) (i:=b.toNat) (by omega)
 have e1:((a.toNat:Nat):Int)=a:=by omega
 have e2:((b.toNat:Nat):Int)=b:=by omega
 rw [e1,e2] at this
 exact of_decide_eq_true this
theorem back_real {a:Int} (a0 : -1≤a) (a1:a < 17):floatToIntVal .f64 (fl a) .i64=some a:=by
 have:=all_get tab_back (i:=(a+1).toNat) (by omega)
 have e1:(((a+1).toNat:Nat):Int) - 1=a:=by omega
 rw [e1] at this
 exact of_decide_eq_true this
theorem is_param {a:Int} (a0 : -1≤a) (a1:a < 17):(FloatKind.f64.format.order (fl a) 13830554455654793216 == some .eq)=decide (a = -1):=by
 rw [← minus_one,ord_real a0 a1 (by omega) (by omega)]
 by_cases h:a = -1
 ·rw [h];rfl
 ·rw [decide_eq_false h]
  have:compare a (-1)≠.eq:=fun e=>h (Int.compare_eq_eq.1 e)
  cases hc:compare a (-1)<;>first | rfl | exact absurd hc this
theorem is_same {a b:Int} (a0 : -1≤a) (a1:a < 17) (b0 : -1≤b) (b1:b < 17):(FloatKind.f64.format.order (fl a) (fl b) == some .eq)=decide (a=b):=by
 rw [ord_real a0 a1 b0 b1]
 by_cases h:a=b
 ·have:compare a b=.eq:=Int.compare_eq_eq.2 h
  rw [this,decide_eq_true h];rfl
 ·rw [decide_eq_false h]
  have:compare a b≠.eq:=fun e=>h (Int.compare_eq_eq.1 e)
  cases hc:compare a b<;>first | rfl | exact absurd hc this
theorem is_ahead {a b:Int} (a0:0≤a) (a1:a < 132) (b0:0≤b) (b1:b < 132):(FloatKind.f64.format.order (fl a) (fl b) == some .lt)=decide (a < b):=by
 rw [ord_imag a0 a1 b0 b1]
 by_cases h:a < b
 ·have:compare a b=.lt:=Int.compare_eq_lt.2 h
  rw [this,decide_eq_true h];rfl
 ·rw [decide_eq_false h]
  have:compare a b≠.lt:=fun e=>h (Int.compare_eq_lt.1 e)
  cases hc:compare a b<;>first | rfl | exact absurd hc this
end Go.Proofs.YtpejpnffcepdlaaGreatDoor.DmX
