/- What is known of the package's error: an interface value with a pointer in it. -/
import Derived.Test.YtpglcpolbhlekaaDoorBase
import Derived.LaidLaws
import Derived.LaidSub
import Derived.Deep.DeepHandedRow
namespace Go.Proofs.YtpglcpolbhlekaaDoor
open Go.ChangeShapes Go.WideShapes Go.ChangeAt Go.RowKit

/-- The package's error lies at a. -/
def Er (w : World) (a : Addr) : Prop := w.cell? ⟨2, 0, none⟩ = some (.iface 160 (.pointer (some a)))
theorem Er.lt {w : World} {a : Addr} (h : Er w a) : 2 < w.heap.size := World.block_lt_of_cell? w _ h
theorem Er.below {w w' : World} {a : Addr} (h : Er w a) (hb : Below w.heap.size w w') : Er w' a := (hb.cell (p := ⟨2, 0, none⟩) h.lt).trans h
theorem Er.drew {w : World} {a : Addr} (h : Er w a) : Er w.drew a := h
theorem Er.drewN {w : World} {a : Addr} (h : Er w a) (n : Nat) : Er (w.drewN n) a := h
theorem Er.alloc {w : World} {a : Addr} (h : Er w a) (o : Obj) : Er (w.alloc o) a := h.below (own_alloc (own_refl w) o)
end Go.Proofs.YtpglcpolbhlekaaDoor
