/- The package sound's contracts. -/
import Derived.Test.YtpejpnffcepdlaaGreatDoorZSzKToSzJ
import Derived.Test.YtpejpnffcepdlaaGreatDoorZFkH
import Derived.Test.YtpejpnffcepdlaaGreatDoorZBlkGToFeP
import Derived.Test.YtpejpnffcepdlaaGreatDoorZFkBToDmS
namespace Go.Proofs.YtpejpnffcepdlaaGreatDoor.SzI
open SvK

theorem check_c : CheckC := fun p v w hp htab hs hok => SzJ.check_of FkH.reach_c FkV.preds_c DmE.all_c p v w hp htab hs hok
theorem kind_c : KindC := fun p f r v w hp htab hs hok hf hr => SzJ.kind_of FkH.reach_c FkV.preds_c DmE.all_c p f r v w hp htab hs hok hf hr
end Go.Proofs.YtpejpnffcepdlaaGreatDoor.SzI
