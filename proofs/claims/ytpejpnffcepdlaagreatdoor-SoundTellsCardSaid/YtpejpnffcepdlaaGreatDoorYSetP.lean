/- Plain facts on sets by words of bits; and how a set lies in memory. -/
import Derived.Test.YtpejpnffcepdlaaGreatDoorRows
import Derived.WalkKit
import Derived.WalkSmall
import Derived.WalkSpells
import Derived.WalkLawsBesides
import Derived.Outline
import Derived.Lib.Hide
import Derived.Deep.QuietTactic
import Derived.BigQuiet
namespace Go.Proofs.YtpejpnffcepdlaaGreatDoor.SetP
open Go.RowKit Go.Lib

abbrev Wd:=Int × Int

def SetAt (w:World) (v:Value) (s:List Wd):Prop :=
 ∃ ao cap,v=.slice ao s.length cap∧s.length≤9223372036854775807 ∧
  (0 < s.length→∃ b off,ao=some ⟨b,off,none⟩∧b < w.heap.size∧∀ i (h:i < s.length),w.cell? ⟨b,off+i * 2,none⟩=some (.int .i64 s[i].1)∧w.cell? ⟨b,off+i * 2+1,none⟩=some (.int .u64 s[i].2))∧(ao=none→cap=0)∧s.length≤cap

theorem SetAt.below {w w' : World} {v:Value} {s:List Wd} (h:SetAt w v s) (hb:Below w.heap.size w w'):SetAt w' v s:=by
 obtain ⟨ao,cap,hv,hl,hm,hz⟩:=h
 refine ⟨ao,cap,hv,hl,fun h0=>?_,hz⟩
 obtain ⟨b,off,ha,hlt,hc⟩:=hm h0
 refine ⟨b,off,ha,Nat.lt_of_lt_of_le hlt hb.size,fun i hi=>?_⟩
 exact ⟨(hb.cell (p:=⟨b,_,none⟩) hlt).trans (hc i hi).1,(hb.cell (p:=⟨b,_,none⟩) hlt).trans (hc i hi).2⟩

def IntsAt (w:World) (v:Value) (l:List Int):Prop :=
 ∃ ao cap,v=.slice ao l.length cap∧l.length≤9223372036854775807 ∧
  (0 < l.length→∃ b off,ao=some ⟨b,off,none⟩∧b < w.heap.size∧∀ i (h:i < l.length),w.cell? ⟨b,off+i,none⟩=some (.int .i64 l[i]))∧(ao=none→cap=0)∧l.length≤cap
theorem IntsAt.below {w w' : World} {v:Value} {s:List Int} (h:IntsAt w v s) (hb:Below w.heap.size w w'):IntsAt w' v s:=by
 obtain ⟨ao,cap,hv,hl,hm,hz⟩:=h
 refine ⟨ao,cap,hv,hl,fun h0=>?_,hz⟩
 obtain ⟨b,off,ha,hlt,hc⟩:=hm h0
 refine ⟨b,off,ha,Nat.lt_of_lt_of_le hlt hb.size,fun i hi=>?_⟩
 exact (hb.cell (p:=⟨b,_,none⟩) hlt).trans (hc i hi)

end Go.Proofs.YtpejpnffcepdlaaGreatDoor.SetP
