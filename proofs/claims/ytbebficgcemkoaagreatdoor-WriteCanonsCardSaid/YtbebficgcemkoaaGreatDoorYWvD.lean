/- Walk over the law: a text told in one way is the document's. -/
import Derived.Test.YtbebficgcemkoaaGreatDoorYRdR
import Derived.Test.YtbebficgcemkoaaGreatDoorYWkTab
import Derived.Test.YtbebficgcemkoaaGreatDoorYRdTab
set_option maxRecDepth 100000
set_option maxHeartbeats 16000000
namespace Go.Proofs.YtbebficgcemkoaaGreatDoor.WvD
open Go.RowKit Go.Lib TyM TyP TyB ShM ShP ShI LxM LxP LxK LxJ LxN RdM RdN RdV RcO RcZ NumP WrM WrI WrP WrC WrT WkJ WkF WkB WkW WvW WvC Aft

theorem toList_self (s:ByteArray):(s.toList == s.toList)=true:=by simp
theorem walk (s:ByteArray) (_:s.size≤9223372036854775807) (W:World) (hk:LxK.Tab W) (htab:ShA.Tab W) (hto:TabO W) (ht:NumL.Tab W) (ho:TabW W) :
  Calls Tryz.prog 5 #[.string s] W fun e W'=>e=.returned (.bool true)∧Below W.heap.size W W':=by
 have HC:=hid (canon_calls s W hk htab hto ht ho)
 have HR:=hid (fun wx=>canonR_calls s wx)
 have h0:=Aft.refl W
 clear ht htab ho hk hto
 unfold TextR at HC HR
 generalize canonO (un s)=wo at *
 obtain ⟨we,wt⟩:=wo
 simp only at *
 generalize mk wt=x at *
 have hss:=toList_self x
 have hee:(we == we)=true:=by simp
 by_cases hg:(3000:Int) < s.size
 ·go_enter Tryz.func5,Tryz.ntmps5
  clear HC HR
  go_wp2
  go_ret
  exact ⟨rfl,h0⟩
 go_enter Tryz.func5,Tryz.ntmps5
 go_wp2_with fail
 refine HC.out.mono ?_
 rintro e w2 ⟨rfl,hb2⟩
 have h2:=h0.go hb2
 clear HC hb2
 go_wp2_with fail
 refine (HR.out w2).mono ?_
 rintro e w3 ⟨rfl,hb3⟩
 have h3:=h2.go hb3
 clear HR hb3
 go_wp2
 go_ret
 exact ⟨rfl,h3⟩
end Go.Proofs.YtbebficgcemkoaaGreatDoor.WvD
