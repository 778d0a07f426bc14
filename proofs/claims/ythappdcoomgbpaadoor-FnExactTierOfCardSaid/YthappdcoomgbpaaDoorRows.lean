/-
  NARROWER THAN 'FOR EVERY INPUT', by the rows' own cells (each row's printed sentence says how): FnExactNamedMatrix: laid · FnExactParentsOf: ifaces, laid · FnExactOrderOf: laid · FnExactTierOf: laid · FnExactFractionOfPath: laid · FnExactMatrixOfFree: laid.
  DERIVED. THE GIVEN ROWS OF THIS SEAT. 6 by the template 'for every input the law returns true; each argument reads behind the call as it read before'; 0 by the template 'total and deterministic' (their statements: YthappdcoomgbpaaDoorTotals.lean).
  GIVEN WITH THE SEED: the statements are not yours to turn. If you find one false, say at which input.
  Laid BY PROGRAM, IN A SANDBOX (cutbox-rows.mjs): the forced cells as the released guide's own fill.sh prints them over the translation 0f981f2bc192f597… (all of the seat's roots in one cut). By AI agents, Wed Nov 11 2026. No macro, syntax, notation, axiom, sorry.
-/
import Derived.Test.YthappdcoomgbpaaDoorChecked
import GoSem.Claim
import GoSem.ClaimJoined
import GoSem.ClaimMapViews
import Derived.JoinedTies
import Derived.KernelRfl
namespace Go.Proofs.YthappdcoomgbpaaDoor
/- THE CELL 'sum', in the pinned program and in every row, IS THE sha256 OF THE DUMP (.gsa) THAT YthappdcoomgbpaaDoorProg.lean LOADS. Nothing in Lean hashes anything: it is a label: what it is worth is what the hold of that sum in a sandbox is worth. -/
noncomputable def Tryd.pinned : Pinned := { name := "ythappdcoomgbpaadoor", sum := "0f981f2bc192f597f64136ef99a7e1265aa431990af291a763efa66aba38aa48", checked := Tryd.checked }
namespace Rows
def none {H : Type} : Left H := { results := [], args := [] }

/- WHAT THE LISTED PACKAGE-LEVEL VARIABLES READ AS WHEN THE CALL BEGINS. Each datum BY PROGRAM (the guide's laid-datum.mjs) off the statement by which the dump's own 'gosem.cut.vars' lays the variable. In a bare row this is a premise. The card (YthappdcoomgbpaaDoorCards.lean) ties it to the program's text. -/
def laid_loop_example_g01380_impl_identity {H : Type} : DataW H := .agg [.lit (.int .i64 1), .lit (.int .i64 0), .lit (.int .i64 0), .lit (.int .i64 1)]
def laid_loop_example_g01380_impl_matrixS {H : Type} : DataW H := .agg [.lit (.int .i64 0), .lit (.int .i64 (-1)), .lit (.int .i64 1), .lit (.int .i64 0)]
def laid_loop_example_g01380_impl_errNoFraction {H : Type} : DataW H := .iface "*errors.errorString" (.ptr (.agg [.lit (.string [110, 111, 116, 32, 97, 32, 102, 114, 97, 99, 116, 105, 111, 110])]))

/-- 'laws.FnExactNamedMatrix': WHATEVER THE INPUT: true; the input reads as it did. -/
def fnExactNamedMatrixSpec : ChangeSpec := { name := "fnExactNamedMatrix", vars := ["loop.example/g01380/impl.matrixS", "loop.example/g01380/impl.identity"], fn := fun _ => fun
  | [d, g1, g2] => { results := [.lit (.bool true)], args := [d], vars := [g1, g2] }
  | _ => none }
def fnExactNamedMatrixRow : OpenClaim := { program := "ythappdcoomgbpaadoor", sum := "0f981f2bc192f597f64136ef99a7e1265aa431990af291a763efa66aba38aa48", func := "loop.example/g01380/laws.FnExactNamedMatrix", spec := "fnExactNamedMatrix", named := ["loop.example/g01380/impl.matrixS", "loop.example/g01380/impl.identity"], plainKeys := false, apart := false, laid := [("loop.example/g01380/impl.identity", laid_loop_example_g01380_impl_identity), ("loop.example/g01380/impl.matrixS", laid_loop_example_g01380_impl_matrixS)] }
def FnExactNamedMatrixSaid : Prop := fnExactNamedMatrixRow.holds Tryd.pinned (OpenSpec.ofChange fnExactNamedMatrixSpec)

/-- ITS FALSE NEIGHBOUR: 'it returns false'. Refute it at one input. -/
def fnExactNamedMatrixWrong : ChangeSpec := { name := "fnExactNamedMatrix", vars := ["loop.example/g01380/impl.matrixS", "loop.example/g01380/impl.identity"], fn := fun _ => fun
  | [d, g1, g2] => { results := [.lit (.bool false)], args := [d], vars := [g1, g2] }
  | _ => none }
def FnExactNamedMatrixWrongFalsely : Prop := fnExactNamedMatrixRow.holds Tryd.pinned (OpenSpec.ofChange fnExactNamedMatrixWrong)

/-- 'laws.FnExactParentsOf': WHATEVER THE INPUT: true; the input reads as it did. -/
def fnExactParentsOfSpec : ChangeSpec := { name := "fnExactParentsOf", vars := ["loop.example/g01380/impl.errNoFraction", "loop.example/g01380/impl.identity"], fn := fun _ => fun
  | [d, g1, g2] => { results := [.lit (.bool true)], args := [d], vars := [g1, g2] }
  | _ => none }
def fnExactParentsOfRow : OpenClaim := { program := "ythappdcoomgbpaadoor", sum := "0f981f2bc192f597f64136ef99a7e1265aa431990af291a763efa66aba38aa48", func := "loop.example/g01380/laws.FnExactParentsOf", spec := "fnExactParentsOf", unfollowed := true, recurses := true, named := ["loop.example/g01380/impl.errNoFraction", "loop.example/g01380/impl.identity"], ifaces := true, plainKeys := false, apart := false, laid := [("loop.example/g01380/impl.identity", laid_loop_example_g01380_impl_identity), ("loop.example/g01380/impl.errNoFraction", laid_loop_example_g01380_impl_errNoFraction)] }
def FnExactParentsOfSaid : Prop := fnExactParentsOfRow.holds Tryd.pinned (OpenSpec.ofChange fnExactParentsOfSpec)

/-- ITS FALSE NEIGHBOUR: 'it returns false'. Refute it at one input. -/
def fnExactParentsOfWrong : ChangeSpec := { name := "fnExactParentsOf", vars := ["loop.example/g01380/impl.errNoFraction", "loop.example/g01380/impl.identity"], fn := fun _ => fun
  | [d, g1, g2] => { results := [.lit (.bool false)], args := [d], vars := [g1, g2] }
  | _ => none }
def FnExactParentsOfWrongFalsely : Prop := fnExactParentsOfRow.holds Tryd.pinned (OpenSpec.ofChange fnExactParentsOfWrong)

/-- 'laws.FnExactOrderOf': WHATEVER THE INPUT: true; the input reads as it did. -/
def fnExactOrderOfSpec : ChangeSpec := { name := "fnExactOrderOf", vars := ["loop.example/g01380/impl.identity"], fn := fun _ => fun
  | [d, g1] => { results := [.lit (.bool true)], args := [d], vars := [g1] }
  | _ => none }
def fnExactOrderOfRow : OpenClaim := { program := "ythappdcoomgbpaadoor", sum := "0f981f2bc192f597f64136ef99a7e1265aa431990af291a763efa66aba38aa48", func := "loop.example/g01380/laws.FnExactOrderOf", spec := "fnExactOrderOf", named := ["loop.example/g01380/impl.identity"], plainKeys := false, apart := false, laid := [("loop.example/g01380/impl.identity", laid_loop_example_g01380_impl_identity)] }
def FnExactOrderOfSaid : Prop := fnExactOrderOfRow.holds Tryd.pinned (OpenSpec.ofChange fnExactOrderOfSpec)

/-- ITS FALSE NEIGHBOUR: 'it returns false'. Refute it at one input. -/
def fnExactOrderOfWrong : ChangeSpec := { name := "fnExactOrderOf", vars := ["loop.example/g01380/impl.identity"], fn := fun _ => fun
  | [d, g1] => { results := [.lit (.bool false)], args := [d], vars := [g1] }
  | _ => none }
def FnExactOrderOfWrongFalsely : Prop := fnExactOrderOfRow.holds Tryd.pinned (OpenSpec.ofChange fnExactOrderOfWrong)

/-- 'laws.FnExactTierOf': WHATEVER THE INPUT: true; the input reads as it did. -/
def fnExactTierOfSpec : ChangeSpec := { name := "fnExactTierOf", vars := ["loop.example/g01380/impl.identity"], fn := fun _ => fun
  | [d, g1] => { results := [.lit (.bool true)], args := [d], vars := [g1] }
  | _ => none }
def fnExactTierOfRow : OpenClaim := { program := "ythappdcoomgbpaadoor", sum := "0f981f2bc192f597f64136ef99a7e1265aa431990af291a763efa66aba38aa48", func := "loop.example/g01380/laws.FnExactTierOf", spec := "fnExactTierOf", recurses := true, named := ["loop.example/g01380/impl.identity"], plainKeys := false, apart := false, laid := [("loop.example/g01380/impl.identity", laid_loop_example_g01380_impl_identity)] }
def FnExactTierOfSaid : Prop := fnExactTierOfRow.holds Tryd.pinned (OpenSpec.ofChange fnExactTierOfSpec)

/-- ITS FALSE NEIGHBOUR: 'it returns false'. Refute it at one input. -/
def fnExactTierOfWrong : ChangeSpec := { name := "fnExactTierOf", vars := ["loop.example/g01380/impl.identity"], fn := fun _ => fun
  | [d, g1] => { results := [.lit (.bool false)], args := [d], vars := [g1] }
  | _ => none }
def FnExactTierOfWrongFalsely : Prop := fnExactTierOfRow.holds Tryd.pinned (OpenSpec.ofChange fnExactTierOfWrong)

/-- 'laws.FnExactFractionOfPath': WHATEVER THE INPUT: true; the input reads as it did. -/
def fnExactFractionOfPathSpec : ChangeSpec := { name := "fnExactFractionOfPath", vars := ["loop.example/g01380/impl.identity"], fn := fun _ => fun
  | [d, g1] => { results := [.lit (.bool true)], args := [d], vars := [g1] }
  | _ => none }
def fnExactFractionOfPathRow : OpenClaim := { program := "ythappdcoomgbpaadoor", sum := "0f981f2bc192f597f64136ef99a7e1265aa431990af291a763efa66aba38aa48", func := "loop.example/g01380/laws.FnExactFractionOfPath", spec := "fnExactFractionOfPath", named := ["loop.example/g01380/impl.identity"], plainKeys := false, apart := false, laid := [("loop.example/g01380/impl.identity", laid_loop_example_g01380_impl_identity)] }
def FnExactFractionOfPathSaid : Prop := fnExactFractionOfPathRow.holds Tryd.pinned (OpenSpec.ofChange fnExactFractionOfPathSpec)

/-- ITS FALSE NEIGHBOUR: 'it returns false'. Refute it at one input. -/
def fnExactFractionOfPathWrong : ChangeSpec := { name := "fnExactFractionOfPath", vars := ["loop.example/g01380/impl.identity"], fn := fun _ => fun
  | [d, g1] => { results := [.lit (.bool false)], args := [d], vars := [g1] }
  | _ => none }
def FnExactFractionOfPathWrongFalsely : Prop := fnExactFractionOfPathRow.holds Tryd.pinned (OpenSpec.ofChange fnExactFractionOfPathWrong)

/-- 'laws.FnExactMatrixOfFree': WHATEVER THE INPUT: true; the input reads as it did. -/
def fnExactMatrixOfFreeSpec : ChangeSpec := { name := "fnExactMatrixOfFree", vars := ["loop.example/g01380/impl.matrixS", "loop.example/g01380/impl.identity"], fn := fun _ => fun
  | [d, g1, g2] => { results := [.lit (.bool true)], args := [d], vars := [g1, g2] }
  | _ => none }
def fnExactMatrixOfFreeRow : OpenClaim := { program := "ythappdcoomgbpaadoor", sum := "0f981f2bc192f597f64136ef99a7e1265aa431990af291a763efa66aba38aa48", func := "loop.example/g01380/laws.FnExactMatrixOfFree", spec := "fnExactMatrixOfFree", named := ["loop.example/g01380/impl.matrixS", "loop.example/g01380/impl.identity"], plainKeys := false, apart := false, laid := [("loop.example/g01380/impl.identity", laid_loop_example_g01380_impl_identity), ("loop.example/g01380/impl.matrixS", laid_loop_example_g01380_impl_matrixS)] }
def FnExactMatrixOfFreeSaid : Prop := fnExactMatrixOfFreeRow.holds Tryd.pinned (OpenSpec.ofChange fnExactMatrixOfFreeSpec)

/-- ITS FALSE NEIGHBOUR: 'it returns false'. Refute it at one input. -/
def fnExactMatrixOfFreeWrong : ChangeSpec := { name := "fnExactMatrixOfFree", vars := ["loop.example/g01380/impl.matrixS", "loop.example/g01380/impl.identity"], fn := fun _ => fun
  | [d, g1, g2] => { results := [.lit (.bool false)], args := [d], vars := [g1, g2] }
  | _ => none }
def FnExactMatrixOfFreeWrongFalsely : Prop := fnExactMatrixOfFreeRow.holds Tryd.pinned (OpenSpec.ofChange fnExactMatrixOfFreeWrong)

/- THE SECOND FORM. 'bulk': how many values and letters a reading holds, each counted each time it is reached (what is shared counts as often as it is met; a slice's spare places count too). A statement '..UptoSaid' is the law's where the arguments, and the package variables that the reading takes, are together of bulk at most 1048576: NARROWER than '..Said'. Prove '..Said' where nothing that the law and all that it calls make is longer than what came in: it says more and counts as full. Else prove '..UptoSaid'. A law counts once. -/
mutual
def uptoBulk {H : Type} : DataW H → Nat
  | .lit (.string bytes) => bytes.length + 1
  | .lit _ => 1
  | .nil => 1
  | .ptr d => uptoBulk d + 1
  | .slice elems spare => uptoBulkAll elems + uptoBulkAll spare + 1
  | .agg parts => uptoBulkAll parts + 1
  | .iface _ d => uptoBulk d + 1
  | .map entries => uptoBulkEntries entries + 1
  | .held _ => 1
def uptoBulkAll {H : Type} : List (DataW H) → Nat
  | [] => 0
  | d :: r => uptoBulk d + uptoBulkAll r
def uptoBulkEntries {H : Type} : List (Lit × DataW H) → Nat
  | [] => 0
  | x :: r => uptoBulkEntry x + uptoBulkEntries r
def uptoBulkEntry {H : Type} : Lit × DataW H → Nat
  | (.string bytes, d) => bytes.length + uptoBulk d + 1
  | (_, d) => uptoBulk d + 1
 end
def uptoSmall : (H : Type) → List (DataW H) → Bool := fun _ ds => decide (uptoBulkAll ds ≤ 1048576)
def OpenSpec.upto (s : _root_.Go.ChangeSpec) : _root_.Go.OpenSpec := { _root_.Go.OpenSpec.ofChange s with cond := some uptoSmall }

/-- 'laws.FnExactNamedMatrix', WHERE WHAT IT READS IS OF BULK AT MOST 1048576: true; the input reads as it did. -/
def fnExactNamedMatrixUptoRow : OpenClaim := { program := "ythappdcoomgbpaadoor", sum := "0f981f2bc192f597f64136ef99a7e1265aa431990af291a763efa66aba38aa48", func := "loop.example/g01380/laws.FnExactNamedMatrix", spec := "fnExactNamedMatrix", named := ["loop.example/g01380/impl.matrixS", "loop.example/g01380/impl.identity"], plainKeys := false, apart := false, laid := [("loop.example/g01380/impl.identity", laid_loop_example_g01380_impl_identity), ("loop.example/g01380/impl.matrixS", laid_loop_example_g01380_impl_matrixS)], narrowed := true }
def FnExactNamedMatrixUptoSaid : Prop := fnExactNamedMatrixUptoRow.holds Tryd.pinned (OpenSpec.upto fnExactNamedMatrixSpec)

/-- 'laws.FnExactParentsOf', WHERE WHAT IT READS IS OF BULK AT MOST 1048576: true; the input reads as it did. -/
def fnExactParentsOfUptoRow : OpenClaim := { program := "ythappdcoomgbpaadoor", sum := "0f981f2bc192f597f64136ef99a7e1265aa431990af291a763efa66aba38aa48", func := "loop.example/g01380/laws.FnExactParentsOf", spec := "fnExactParentsOf", unfollowed := true, recurses := true, named := ["loop.example/g01380/impl.errNoFraction", "loop.example/g01380/impl.identity"], ifaces := true, plainKeys := false, apart := false, laid := [("loop.example/g01380/impl.identity", laid_loop_example_g01380_impl_identity), ("loop.example/g01380/impl.errNoFraction", laid_loop_example_g01380_impl_errNoFraction)], narrowed := true }
def FnExactParentsOfUptoSaid : Prop := fnExactParentsOfUptoRow.holds Tryd.pinned (OpenSpec.upto fnExactParentsOfSpec)

/-- 'laws.FnExactOrderOf', WHERE WHAT IT READS IS OF BULK AT MOST 1048576: true; the input reads as it did. -/
def fnExactOrderOfUptoRow : OpenClaim := { program := "ythappdcoomgbpaadoor", sum := "0f981f2bc192f597f64136ef99a7e1265aa431990af291a763efa66aba38aa48", func := "loop.example/g01380/laws.FnExactOrderOf", spec := "fnExactOrderOf", named := ["loop.example/g01380/impl.identity"], plainKeys := false, apart := false, laid := [("loop.example/g01380/impl.identity", laid_loop_example_g01380_impl_identity)], narrowed := true }
def FnExactOrderOfUptoSaid : Prop := fnExactOrderOfUptoRow.holds Tryd.pinned (OpenSpec.upto fnExactOrderOfSpec)

/-- 'laws.FnExactTierOf', WHERE WHAT IT READS IS OF BULK AT MOST 1048576: true; the input reads as it did. -/
def fnExactTierOfUptoRow : OpenClaim := { program := "ythappdcoomgbpaadoor", sum := "0f981f2bc192f597f64136ef99a7e1265aa431990af291a763efa66aba38aa48", func := "loop.example/g01380/laws.FnExactTierOf", spec := "fnExactTierOf", recurses := true, named := ["loop.example/g01380/impl.identity"], plainKeys := false, apart := false, laid := [("loop.example/g01380/impl.identity", laid_loop_example_g01380_impl_identity)], narrowed := true }
def FnExactTierOfUptoSaid : Prop := fnExactTierOfUptoRow.holds Tryd.pinned (OpenSpec.upto fnExactTierOfSpec)

/-- 'laws.FnExactFractionOfPath', WHERE WHAT IT READS IS OF BULK AT MOST 1048576: true; the input reads as it did. -/
def fnExactFractionOfPathUptoRow : OpenClaim := { program := "ythappdcoomgbpaadoor", sum := "0f981f2bc192f597f64136ef99a7e1265aa431990af291a763efa66aba38aa48", func := "loop.example/g01380/laws.FnExactFractionOfPath", spec := "fnExactFractionOfPath", named := ["loop.example/g01380/impl.identity"], plainKeys := false, apart := false, laid := [("loop.example/g01380/impl.identity", laid_loop_example_g01380_impl_identity)], narrowed := true }
def FnExactFractionOfPathUptoSaid : Prop := fnExactFractionOfPathUptoRow.holds Tryd.pinned (OpenSpec.upto fnExactFractionOfPathSpec)

/-- 'laws.FnExactMatrixOfFree', WHERE WHAT IT READS IS OF BULK AT MOST 1048576: true; the input reads as it did. -/
def fnExactMatrixOfFreeUptoRow : OpenClaim := { program := "ythappdcoomgbpaadoor", sum := "0f981f2bc192f597f64136ef99a7e1265aa431990af291a763efa66aba38aa48", func := "loop.example/g01380/laws.FnExactMatrixOfFree", spec := "fnExactMatrixOfFree", named := ["loop.example/g01380/impl.matrixS", "loop.example/g01380/impl.identity"], plainKeys := false, apart := false, laid := [("loop.example/g01380/impl.identity", laid_loop_example_g01380_impl_identity), ("loop.example/g01380/impl.matrixS", laid_loop_example_g01380_impl_matrixS)], narrowed := true }
def FnExactMatrixOfFreeUptoSaid : Prop := fnExactMatrixOfFreeUptoRow.holds Tryd.pinned (OpenSpec.upto fnExactMatrixOfFreeSpec)

end Rows
end Go.Proofs.YthappdcoomgbpaaDoor
