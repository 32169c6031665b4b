/- Walks over what num.parts calls. -/
import Derived.Test.YtpejpnffcepdlaaGreatDoorRows
import Derived.Test.YtpejpnffcepdlaaGreatDoorVNumQ
import Derived.WalkKit
import Derived.WalkSmall
import Derived.WalkSpells
import Derived.WalkLawsBesides
import Derived.Outline
import Derived.Lib.Hide
import Derived.Defers
import Derived.Lib.Strings
namespace Go.Proofs.YtpejpnffcepdlaaGreatDoor.NumD
open Go.RowKit Go.Lib NumP NumQ

theorem toList_cons {s:ByteArray} (h0:0 < s.size):s.data.toList=s[0] :: s.data.toList.drop 1:=by
 have hl:s.data.toList.length=s.size:=Array.length_toList
 have e:=List.drop_eq_getElem_cons (l:=s.data.toList) (i:=0) (by omega)
 rw [List.drop_zero] at e
 exact e

theorem prefix_yes (s:ByteArray) (hs:s.size≤9223372036854775807) (h0:0 < s.size) (h45:s[0].toNat=45) (w:World) :
  Calls Tryz.prog 239 #[.string s,.string ⟨#[45]⟩] w fun e w'=>e=.returned (.bool true)∧w=w':=by
 have hsl:((s.extract 0 1).toList == [45])=true:=by
  rw [extract_toList,toList_cons h0];simp
  exact UInt8.toNat_inj.1 (by rw [h45];rfl)
 go_enter Tryz.func239,Tryz.ntmps239
 go_wp2
 go_ret
 exact ⟨rfl,rfl⟩

theorem prefix_no (s:ByteArray) (hs:s.size≤9223372036854775807) (h:¬ ∃ h0:0 < s.size,s[0].toNat=45) (w:World) :
  Calls Tryz.prog 239 #[.string s,.string ⟨#[45]⟩] w fun e w'=>e=.returned (.bool false)∧w=w':=by
 by_cases h0:0 < s.size
 ·have hsl:((s.extract 0 1).toList == [45])=false:=by
   rw [extract_toList,toList_cons h0];simp
   intro e
   exact h ⟨h0,by rw [e];rfl⟩
  go_enter Tryz.func239,Tryz.ntmps239
  go_wp2
  go_ret
  exact ⟨rfl,rfl⟩
 ·have hd:decide ((1:Int)≤(s.size:Int))=false:=by simp;omega
  go_enter Tryz.func239,Tryz.ntmps239
  go_wp2
  go_ret
  exact ⟨rfl,rfl⟩

theorem cut_yes (s:ByteArray) (hs:s.size≤9223372036854775807) (h0:0 < s.size) (h45:s[0].toNat=45) (w:World) :
  Calls Tryz.prog 233 #[.string s,.string ⟨#[45]⟩] w fun e w'=>e=.returned (.tuple #[.string (s.extract 1 s.size),.bool true])∧w=w':=by
 go_enter Tryz.func233,Tryz.ntmps233
 go_wp2_with (first | (go_at_call 239;refine (prefix_yes s hs h0 h45 _).mono ?_;rintro e w' ⟨rfl,rfl⟩) | go_in)
 go_ret2
 exact ⟨rfl,rfl⟩
theorem cut_no (s:ByteArray) (hs:s.size≤9223372036854775807) (h:¬ ∃ h0:0 < s.size,s[0].toNat=45) (w:World) :
  Calls Tryz.prog 233 #[.string s,.string ⟨#[45]⟩] w fun e w'=>e=.returned (.tuple #[.string s,.bool false])∧w=w':=by
 have H:=hid h
 clear h
 go_enter Tryz.func233,Tryz.ntmps233
 go_wp2_with (first | (go_at_call 239;refine (prefix_no s hs H.out _).mono ?_;rintro e w' ⟨rfl,rfl⟩) | go_in)
 go_ret2
 exact ⟨rfl,rfl⟩

def begB (l:List UInt8) (below:Bool):Bool:=match l with
 | []=>false
 | c :: t=>decide (c.toNat≠48) || (t.isEmpty && !below)

theorem begins_calls (s:ByteArray) (hs:s.size≤9223372036854775807) (below:Bool) (w:World) :
  Calls Tryz.prog 234 #[.string s,.bool below] w fun e w'=>e=.returned (.bool (begB s.data.toList below))∧w=w':=by
 have hl:s.data.toList.length=s.size:=Array.length_toList
 have hnot:∀ (x:Bool) (w:World),(Op.unary .not (.bool x)).run Tryz.prog w=.ok (.bool (!x)) w:=fun _ _=>rfl
 by_cases h0:0 < s.size
 ·have hb:begB s.data.toList below=(decide (s[0].toNat≠48) || ((s.data.toList.drop 1).isEmpty && !below)):=by
   rw [toList_cons h0];rfl
  have hne:s.toList.isEmpty=false:=by rw [ByteArray.toList_eq,toList_cons h0];rfl
  by_cases h48:s[0].toNat=48
  ·have h1:((s[0].toNat:Int) != 48)=false:=by simp;omega
   by_cases h2:s.size=1
   ·have h3:(s.toList == [48])=true:=by
     have:(s.data.toList.drop 1)=[]:=List.eq_nil_of_length_eq_zero (by rw [List.length_drop];omega)
     rw [ByteArray.toList_eq,toList_cons h0,this]
     simp
     exact UInt8.toNat_inj.1 (by rw [h48];rfl)
    have hb2:begB s.data.toList below=!below:=by
     have:(s.data.toList.drop 1)=[]:=List.eq_nil_of_length_eq_zero (by rw [List.length_drop];omega)
     rw [hb,this];simp [h48]
    have HB:=hid hb2
    clear hb hb2 hl h2
    go_enter Tryz.func234,Tryz.ntmps234
    go_wp2
    go_ret
    exact ⟨by rw [HB.out];rfl,rfl⟩
   ·have h3:(s.toList == [48])=false:=by
     rw [ByteArray.toList_eq]
     simp
     intro e
     have:=congrArg List.length e
     simp at this;omega
    have hb2:begB s.data.toList below=false:=by
     have:(s.data.toList.drop 1).isEmpty=false:=by
      cases hd:s.data.toList.drop 1 with
      | nil=>have:=congrArg List.length hd;simp at this;omega
      | cons a b=>rfl
     rw [hb,this];simp [h48]
    have HB:=hid hb2
    clear hb hb2 hl h2
    go_enter Tryz.func234,Tryz.ntmps234
    go_wp2
    go_ret
    exact ⟨by rw [HB.out];rfl,rfl⟩
  ·have h1:((s[0].toNat:Int) != 48)=true:=by simp;omega
   have hb2:begB s.data.toList below=true:=by rw [hb];simp [h48]
   have HB:=hid hb2
   clear hb hb2 hl
   go_enter Tryz.func234,Tryz.ntmps234
   go_wp2
   go_ret
   exact ⟨by rw [HB.out];rfl,rfl⟩
 ·have he:s.data.toList=[]:=List.eq_nil_of_length_eq_zero (by omega)
  have hne:s.toList.isEmpty=true:=by rw [ByteArray.toList_eq,he];rfl
  have hb2:begB s.data.toList below=false:=by rw [he];rfl
  have HB:=hid hb2
  clear hb2 hl he
  go_enter Tryz.func234,Tryz.ntmps234
  go_wp2
  go_ret
  exact ⟨by rw [HB.out];rfl,rfl⟩

def most (below:Bool):Nat:=if below then 9223372036854775808 else 9223372036854775807
theorem greatest_calls (below:Bool) (w:World) :
  Calls Tryz.prog 236 #[.bool below] w fun e w'=>e=.returned (.int .u64 (most below))∧w=w':=by
 cases below
 all_goals
  go_enter Tryz.func236,Tryz.ntmps236
  go_wp2
  go_ret
  exact ⟨rfl,rfl⟩

theorem closure_well (p1 p2 p3 p4:Addr) (u:FrameMode) (w:World) (h:w.cell? p1=some (.bool true)) :
  CallsD Tryz.prog 235 #[.pointer (some p1),.pointer (some p2),.pointer (some p3),.pointer (some p4)] u w fun e u' w'=>u'=u∧(e=.returned (.tuple #[])∧w'=w):=by
 go_enter_d Tryz.func235,Tryz.ntmps235
 go_wp2
 go_end0
 exact ⟨rfl,rfl⟩

theorem closure_ill (b:Nat) (x2 x3 x4:Value) (u:FrameMode) (w:World) (h:w.cell? ⟨b+1+1+1,0,none⟩=some (.bool false))
  (h2:w.cell? ⟨b,0,none⟩=some x2) (h3:w.cell? ⟨b+1,0,none⟩=some x3) (h4:w.cell? ⟨b+1+1,0,none⟩=some x4)
  (f2:w.frozen? ⟨b,0,none⟩=false) (f3:w.frozen? ⟨b+1,0,none⟩=false) (f4:w.frozen? ⟨b+1+1,0,none⟩=false) :
  CallsD Tryz.prog 235 #[.pointer (some ⟨b+1+1+1,0,none⟩),.pointer (some ⟨b,0,none⟩),.pointer (some ⟨b+1,0,none⟩),.pointer (some ⟨b+1+1,0,none⟩)] u w fun e u' w'=>u'=u∧(e=.returned (.tuple #[]) ∧
   w'=((w.setCell ⟨b,0,none⟩ (.bool false)).setCell ⟨b+1,0,none⟩ (.int .u64 0)).setCell ⟨b+1+1,0,none⟩ (.int .i64 10)):=by
 go_enter_d Tryz.func235,Tryz.ntmps235
 go_wp2
 go_end0
 exact ⟨rfl,rfl⟩
end Go.Proofs.YtpejpnffcepdlaaGreatDoor.NumD
