/- Errors that are wrapped by sound.fault, and errors.Is of them: what the last one is. -/
import Derived.Test.YtpejpnffcepdlaaGreatDoorVTyBToTyTI
import Derived.Test.YtpejpnffcepdlaaGreatDoorVIntOToSwXd
import Derived.Test.YtpejpnffcepdlaaGreatDoorVShBToShW
import Derived.LaidEql
import Derived.Lib.IfaceEq
import Derived.Stop.Asserts
import Derived.RowKitTokens
set_option maxRecDepth 100000
set_option maxHeartbeats 16000000
namespace Go.Proofs.YtpejpnffcepdlaaGreatDoor.SzE
open Go.RowKit Go.Lib Go.Extern SetP IntO TyM TyP TyB ShM ShP ShB Aft

inductive ErrAt (w:World) (c:Int):Value→Nat→Prop
 | num:ErrAt w c (.iface 23 (.int .i64 c)) 0
 | wrap {b n:Nat} {s k v:Value} : w.heap[b]?=some (.cells #[s,k,v] 171 (0,0))→ErrAt w c v n→ErrAt w c (.iface 169 (.pointer (some ⟨b,0,none⟩))) (n+1)
theorem ErrAt.keep {w w' : World} {c:Int} {v:Value} {n:Nat} (h:ErrAt w c v n) (hb:Below w.heap.size w w'):ErrAt w' c v n:=by
 induction h with
 | num=>exact .num
 | wrap h _ ih=>exact .wrap ((hb.block _ (Array.getElem?_eq_some_iff.1 h).1).trans h) ih
theorem ErrAt.iface {w:World} {c:Int} {v:Value} {n:Nat} (h:ErrAt w c v n):∃ t u,v=.iface t u:=by
 cases h<;>exact ⟨_,_,rfl⟩
def BadAt (w:World) (v:Value):Prop:=∃ c n,ErrAt w c v n∧(c=120∨c=6)
theorem BadAt.below {w w' : World} {v:Value} (h:BadAt w v) (hb:Below w.heap.size w w'):BadAt w' v:=by
 obtain ⟨c,n,h1,h2⟩:=h
 exact ⟨c,n,h1.keep hb,h2⟩
theorem BadAt.iface {w:World} {v:Value} (h:BadAt w v):∃ t u,v=.iface t u:=by
 obtain ⟨c,n,h1,_⟩:=h
 exact h1.iface
theorem bad_form (w:World):BadAt w (.iface 23 (.int .i64 120)):=⟨120,0,.num,.inl rfl⟩
def ErrIf (ok:Bool) (w:World) (v:Value):Prop:=if ok=true then v=.nilIface else BadAt w v
theorem ErrIf.yes {w:World} {v:Value} (h:ErrIf true w v):v=.nilIface:=h
theorem ErrIf.no {w:World} {v:Value} (h:ErrIf false w v):BadAt w v:=h
theorem ErrIf.below {ok:Bool} {w w' : World} {v:Value} (h:ErrIf ok w v) (hb:Below w.heap.size w w'):ErrIf ok w' v:=by
 cases ok with
 | true=>exact h
 | false=>exact BadAt.below h hb
def ErrR (ok:Bool) (w:World) (e:Ending) (w' : World):Prop:=∃ v,e=.returned v∧ErrIf ok w' v∧Below w.heap.size w w'

/-! in -/
theorem in_err (s:ByteArray) (k c:Int) (v:Value) (n:Nat) (w:World) (h1:ErrAt w c v n) :
  Calls Tryz.prog 64 #[.string s,.int .i64 k,v] w fun e w'=>∃ u,e=.returned u∧ErrAt w' c u (n+1)∧Below w.heap.size w w':=by
 obtain ⟨t,u,rfl⟩:=h1.iface
 have H1:=hid h1
 have HB:=hid (alloc_below w (.cells #[.string s,.int .i64 k,.iface t u] 171))
 have HN:=hid (ShB.alloc_new w (.cells #[.string s,.int .i64 k,.iface t u] 171))
 clear h1
 go_enter Tryz.func64,Tryz.ntmps64
 go_wp2
 go_ret
 exact ⟨_,rfl,.wrap HN.out (H1.out.keep HB.out),HB.out⟩
theorem in_calls (s:ByteArray) (k:Int) (v:Value) (w:World) (hv:BadAt w v) :
  Calls Tryz.prog 64 #[.string s,.int .i64 k,v] w (ErrR false w):=by
 obtain ⟨c,n,h1,h2⟩:=hv
 refine (in_err s k c v n w h1).mono ?_
 rintro e w' ⟨u,rfl,h3,hb⟩
 exact ⟨u,rfl,⟨c,n+1,h3,h2⟩,hb⟩

/-! closed facts -/
theorem tT (v:Value) (w:World):(Extern.ReflectliteType.typeOf #[.iface 23 v]).run Tryz.prog w=.ok (.iface 173 (.agg #[.pointer (some ⟨4,23,none⟩)])) w:=by kernel_rfl
theorem cT (w:World):(callFunc 261 #[.agg #[.pointer (some ⟨4,23,none⟩)]]).run Tryz.prog w=.ok (.value (.bool true)) w:=by kernel_rfl
theorem mR (v:Value) (w:World) (n:Nat):(Go.method (n+1) 173 v "Comparable").run Tryz.prog w=.ok (261,v) w:=by kernel_rfl
theorem eqN (a b:Int) (w:World):(binOp .eql 66 (.iface 23 (.int .i64 a)) (.iface 23 (.int .i64 b))).run Tryz.prog w=.ok (.bool (a == b)) w :=
 run_eql_iface_int w a b Tryz.underlying66 (by kernel_rfl) Tryz.underlying23
theorem eqF (u v:Value) (w:World):(binOp .eql 66 (.iface 169 u) (.iface 23 v)).run Tryz.prog w=.ok (.bool false) w :=
 run_eql_iface_types _ _ _ _ Tryz.underlying66 (by decide) w
theorem noIsN (v:Value) (xT:TypeId) (w:World):(Instr.typeAssert (.iface 23 v) xT 175 true).run Tryz.prog w=.ok (.tuple #[.nilIface,.bool false]) w:=run_typeAssert_lacksB Tryz.underlying175 (by kernel_rfl) (by kernel_rfl) v xT w
theorem noUnN (v:Value) (xT:TypeId) (w:World):(Instr.typeAssert (.iface 23 v) xT 178 true).run Tryz.prog w=.ok (.tuple #[.nilIface,.bool false]) w:=run_typeAssert_lacksB Tryz.underlying178 (by kernel_rfl) (by kernel_rfl) v xT w
theorem noUsN (v:Value) (xT:TypeId) (w:World):(Instr.typeAssert (.iface 23 v) xT 180 true).run Tryz.prog w=.ok (.tuple #[.nilIface,.bool false]) w:=run_typeAssert_lacksB Tryz.underlying180 (by kernel_rfl) (by kernel_rfl) v xT w
theorem noIsF (v:Value) (xT:TypeId) (w:World):(Instr.typeAssert (.iface 169 v) xT 175 true).run Tryz.prog w=.ok (.tuple #[.nilIface,.bool false]) w:=run_typeAssert_lacksB Tryz.underlying175 (by kernel_rfl) (by kernel_rfl) v xT w
theorem hasUnF (v:Value) (xT:TypeId) (w:World):(Instr.typeAssert (.iface 169 v) xT 178 true).run Tryz.prog w=.ok (.tuple #[.iface 169 v,.bool true]) w:=run_typeAssert_hasB Tryz.underlying178 (by kernel_rfl) v xT w
theorem mUF (v:Value) (w:World) (n:Nat):(Go.method (n+1) 169 v "Unwrap").run Tryz.prog w=.ok (257,v) w:=by kernel_rfl

/-! errors.is, errors.Is -/
theorem unwrap_calls (b:Nat) (s k v:Value) (w:World) (h:w.heap[b]?=some (.cells #[s,k,v] 171 (0,0))) (hv:∃ t u,v=.iface t u) :
  Calls Tryz.prog 257 #[.pointer (some ⟨b,0,none⟩)] w fun e w'=>e=.returned v∧w'=w:=by
 have l2:=later_cells h 2 _ rfl w (Aft.refl w)
 obtain ⟨t,u,rfl⟩:=hv
 clear h
 go_enter Tryz.func257,Tryz.ntmps257
 go_wp2
 go_ret
 exact ⟨rfl,rfl⟩
theorem is_calls (c t:Int) (v:Value) (n:Nat) (w:World) (h:ErrAt w c v n) :
  Calls Tryz.prog 66 #[v,.iface 23 (.int .i64 t),.bool true] w fun e w'=>e=.returned (.bool (c == t))∧w'=w:=by
 generalize hct:(c == t)=ans
 have h1:=noIsN
 have h2:=noUnN
 have h3:=noUsN
 have h4:=noIsF
 have h5:=hasUnF
 have h6:=mUF
 go_enter Tryz.func66,Tryz.ntmps66
 go_wp2
 go_loopg [0] n (fun gk ev wr=>wr=w∧ErrAt w c ev gk)
 case atStart=>exact ⟨rfl,h⟩
 case round =>
  obtain ⟨rfl,hc⟩:=hrel
  cases hc with
  | num =>
   have he:=eqN c t wr
   rw [hct] at he
   clear hct
   cases ans with
   | true =>
    go_wp2
    go_ret
    exact ⟨rfl,rfl⟩
   | false =>
    go_wp2
    go_ret
    exact ⟨rfl,rfl⟩
  | @wrap b m s1 k1 v1 hb hv =>
   have HE:=hid (eqF (.pointer (some ⟨b,0,none⟩)) (.int .i64 t) wr)
   have HU:=hid (unwrap_calls _ _ _ _ wr hb hv.iface)
   obtain ⟨t1,u1,rfl⟩:=hv.iface
   have HV:=hid hv
   have he:=HE.out
   clear hb hv HE
   go_wp2_with (refine HU.out.mono ?_;rintro e w1 ⟨rfl,rfl⟩)
   go_roundg m
   case measure=>omega
   case rel=>exact ⟨rfl,HV.out⟩
theorem is_errors (c t:Int) (v:Value) (n:Nat) (w:World) (h:ErrAt w c v n) :
  Calls Tryz.prog 27 #[v,.iface 23 (.int .i64 t)] w (BoolR (c == t) w):=by
 have h8:=@run_callFunc_extern Tryz.prog 65 _ Extern.ReflectliteType.typeOf Tryz.func65 (by kernel_rfl) (by kernel_rfl) (by kernel_rfl) (by kernel_rfl)
 have k1:=tT
 have k2:=cT
 have k3:=mR
 have HI:=hid (is_calls c t v n w h)
 obtain ⟨t1,u1,rfl⟩:=h.iface
 clear h
 go_enter Tryz.func27,Tryz.ntmps27
 go_wp2_with (refine HI.out.mono ?_;rintro e w1 ⟨rfl,rfl⟩)
 go_ret
 exact ⟨rfl,Below.refl _ _⟩
theorem is_none (t:Int) (w:World) :
  Calls Tryz.prog 27 #[.nilIface,.iface 23 (.int .i64 t)] w (BoolR false w):=by
 have hn:=run_eql_iface_nil_left (P:=Tryz.prog) w 23 (.int .i64 t) Tryz.underlying66
 go_enter Tryz.func27,Tryz.ntmps27
 go_wp2
 go_ret
 exact ⟨rfl,Below.refl _ _⟩
end Go.Proofs.YtpejpnffcepdlaaGreatDoor.SzE
