/- Walk over num.Write. -/
import Derived.Test.YtbebficgcemkoaaGreatDoorYNumEToNumG
import Derived.Test.YtbebficgcemkoaaGreatDoorYShelfToShelfB
import Derived.Lib.AppendIntMem
namespace Go.Proofs.YtbebficgcemkoaaGreatDoor.NumL
open Go.RowKit Go.Lib NumP NumQ NumR NumD NumF
theorem below_grow (w:World) (os:Array Obj):Below w.heap.size w (Sort.grow w os) :=
 ⟨rfl,rfl,rfl,by simp [Sort.grow],fun k hk=>by simp [Sort.grow,Array.getElem?_append,hk]⟩

def Tab (w:World):Prop:=TabBelow Tryz.prog w.heap.size w "internal/strconv.uint64pow10" .u64 pow10Tab
theorem Tab.on {w w1:World} (h:Tab w) (hb:Below w.heap.size w w1):Tab w1:=by
 intro w' h'
 exact h w' (hb.trans (h'.mono hb.size))

theorem write_calls (n:Int) (h:I64 n) (w:World) (ht:Tab w) :
  Calls Tryz.prog 93 #[.int .i64 n] w fun e w'=>e=.returned (.string ⟨(itoa n).toArray⟩)∧Below w.heap.size w w':=by
 have HT:=hid ht.here
 go_enter Tryz.func93,Tryz.ntmps93
 go_wp2_with fail
 refine (Tryz.strconv_FormatInt_10 n h.1 h.2 w HT.out).mono ?_
 rintro e w1 ⟨rfl,k,os,rfl⟩
 go_wp2
 go_ret
 exact ⟨rfl,(below_drewN (Below.refl _ _) k).trans ((below_grow _ os).mono (Nat.le_refl _))⟩

end Go.Proofs.YtbebficgcemkoaaGreatDoor.NumL
