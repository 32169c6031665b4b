/- A world that grows. -/
import Derived.Test.YtdbljknpdhpmeaaCaK
import Derived.Laws.BitsAllLaws
namespace Go.Proofs.Ytdbljknpdhpmeaa.CaR
open Go.RowKit Go.Lib SetP CaM CaK

theorem alloc_below (w : World) (o : Obj) : Below w.heap.size w (w.alloc o) := (Below.refl _ _).alloc (Nat.le_refl _) o
end Go.Proofs.Ytdbljknpdhpmeaa.CaR
