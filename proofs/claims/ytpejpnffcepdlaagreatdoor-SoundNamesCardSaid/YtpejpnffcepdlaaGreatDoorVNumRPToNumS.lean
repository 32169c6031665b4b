/- What Read answers, of a call. What Small answers: 'sm'. -/
import Derived.Test.YtpejpnffcepdlaaGreatDoorRows
import Derived.Test.YtpejpnffcepdlaaGreatDoorVNumQ
import Derived.WalkKit
import Derived.WalkSmall
import Derived.WalkSpells
import Derived.WalkLawsBesides
import Derived.Outline
import Derived.Lib.Hide
import Derived.Below
namespace Go.Proofs.YtpejpnffcepdlaaGreatDoor.NumR
open Go.RowKit Go.Lib NumP NumQ

def RdPost (l:List UInt8) (w:World) (e:Ending) (w' : World):Prop :=
 e=.returned (.tuple #[.int .i64 (rd l).1,.int .i64 (rd l).2])∧Below w.heap.size w w'

theorem rdpost_none {l:List UInt8} {w w' : World} (h:rd l=(0,10)) (hb:Below w.heap.size w w'):RdPost l w (.returned (.tuple #[.int .i64 0,.int .i64 10])) w':=⟨by rw [h],hb⟩
end Go.Proofs.YtpejpnffcepdlaaGreatDoor.NumR
namespace Go.Proofs.YtpejpnffcepdlaaGreatDoor.NumG
open Go.RowKit Go.Lib NumP NumQ NumR

def sm (l:List UInt8) (most:Int):Int × Int :=
 if most < 0∨1000000 < most then (0,2)
 else if (rd l).2=0∧0≤(rd l).1∧(rd l).1≤most then ((rd l).1,0) else (0,10)
def SmPost (l:List UInt8) (most:Int) (w:World) (e:Ending) (w' : World):Prop :=
 e=.returned (.tuple #[.int .i64 (sm l most).1,.int .i64 (sm l most).2])∧Below w.heap.size w w'
theorem sm_big {l:List UInt8} {most:Int} (h:most < 0∨1000000 < most):sm l most=(0,2):=by unfold sm;rw [if_pos h]
theorem sm_ok {l:List UInt8} {most:Int} (h:¬ (most < 0∨1000000 < most)) (h2:(rd l).2=0∧0≤(rd l).1∧(rd l).1≤most):sm l most=((rd l).1,0):=by unfold sm;rw [if_neg h,if_pos h2]
theorem sm_no {l:List UInt8} {most:Int} (h:¬ (most < 0∨1000000 < most)) (h2:¬ ((rd l).2=0∧0≤(rd l).1∧(rd l).1≤most)):sm l most=(0,10):=by unfold sm;rw [if_neg h,if_neg h2]
end Go.Proofs.YtpejpnffcepdlaaGreatDoor.NumG
