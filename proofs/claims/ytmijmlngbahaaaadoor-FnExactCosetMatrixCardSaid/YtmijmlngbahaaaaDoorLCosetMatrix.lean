/- The walk of the law FnExactCosetMatrix. -/
import Derived.Test.YtmijmlngbahaaaaDoorLoCosetMatrix
namespace Go.Proofs.YtmijmlngbahaaaaDoor
open Go.ChangeShapes Go.WideShapes Go.ChangeAt Go.RowKit
theorem lawCosetMatrix_walk (n i : Int) (_ : I64 n) (hi : I64 i) (w : World) (hid : Idn w) :
    Calls Tryd.prog 3 #[(.int .i64 n), (.int .i64 i)] w fun e w' => e = .returned (.bool true) ∧ Below w.heap.size w w' := by
  obtain ⟨x, y, z, t, k, hs, hi'⟩ := Cm_both n i hi
  exact lawCosetMatrix_of n i x y z t k hs hi' w hid
end Go.Proofs.YtmijmlngbahaaaaDoor
