/- Walk over fescueref06.Twin. -/
import Derived.Test.YtpejpnffcepdlaaGreatDoorZRwHToShTB
import Derived.Test.YtpejpnffcepdlaaGreatDoorZFwRToTyRT
import Derived.Test.YtpejpnffcepdlaaGreatDoorZShE
import Derived.Test.YtpejpnffcepdlaaGreatDoorZRgZToRgY
namespace Go.Proofs.YtpejpnffcepdlaaGreatDoor.ShTP
open Go.RowKit Go.Lib SetP IntO TyM TyP TyB TyW TyT ShM ShP ShA ShB ShE RwO ShTB RgZ

/-- a program that is no greater than is gone through -/
structure FineP (p : Px) : Prop where
 types : p.types.length ≤ 20000
 parts : ∀ x ∈ p.types, x.parts.length ≤ 20000
 funcs : p.funcs.length ≤ 20000
 blocks : ∀ f ∈ p.funcs, f.blocks.length ≤ 50000 ∧ Fine f.blocks
theorem _root_.Go.Proofs.YtpejpnffcepdlaaGreatDoor.TyW.OwnT.other {B : Nat} {w w' : World} {v : Value} {r : List Row} {f : TypeId} {row : Option Nat} (h : OwnT B v r w) (hg : w.grownBy w' row) (hr : ∀ g, row = some g → ∃ cs fr, w.heap[g]? = some (.cells cs f fr)) (h1 : 3 ≠ f) (h2 : 43 ≠ f) : OwnT B v r w' := ⟨owns_other h.1 hg hr h2, fun y hy => owns_other (h.2 y hy) hg hr h1⟩
theorem _root_.Go.Proofs.YtpejpnffcepdlaaGreatDoor.RwO.OwnFns.other {B : Nat} {w w' : World} {v : Value} {r : List Fr} {f : TypeId} {row : Option Nat} (h : OwnFns B w v r) (hg : w.grownBy w' row) (hr : ∀ g, row = some g → ∃ cs fr, w.heap[g]? = some (.cells cs f fr)) (h1 : 3 ≠ f) (h2 : 31 ≠ f) (h3 : 38 ≠ f) (h4 : 41 ≠ f) : OwnFns B w' v r := ⟨owns_other h.1 hg hr h4, fun y hy => (h.2 y hy).other hg hr h1 h2 h3⟩

end Go.Proofs.YtpejpnffcepdlaaGreatDoor.ShTP
