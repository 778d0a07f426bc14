/- The arguments' types opened and shut: arrays of four and of two integers by value. -/
import Derived.Test.YtfchfakkbdfajaaBase
import Derived.Laws.IdiomArrays
namespace Go.Proofs.Ytfchfakkbdfajaa
open Go.ChangeShapes Go.WideShapes Go.ChangeAt Go.RowKit

theorem own : ownKnob Try.prog.godebug = none := by kernel_rfl
section
variable {H : Type} {enc : TypeId × Value → H} {W : World} {base b0 : Nat} {sp : Nat → Bool} {hd : Bool}

theorem cells_i64 : Try.prog.cellsOf 2 = 1 := by kernel_rfl
end
end Go.Proofs.Ytfchfakkbdfajaa
