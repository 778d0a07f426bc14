/-
  NARROWER THAN 'FOR EVERY INPUT', by the rows' own cells (each row's printed sentence says how): FnExactNextInRow: ifaces, laid · FnExactOrderOf: laid · FnExactDistanceOf: ifaces, laid.
  DERIVED. THE GIVEN ROWS OF THIS SEAT. 3 by the template 'for every input the law returns true; each argument reads behind the call as it read before'; 0 by the template 'total and deterministic' (their statements: YtmlbbhhjjepmkaaDoorTotals.lean).
  GIVEN WITH THE SEED: the statements are not yours to turn. If you find one false, say at which input.
  Laid BY PROGRAM, IN A SANDBOX (cutbox-rows.mjs): the forced cells as the released guide's own fill.sh prints them over the translation a9ae17092d224eb6… (all of the seat's roots in one cut). By AI agents, Wed Nov 11 2026. No macro, syntax, notation, axiom, sorry.
-/
import Derived.Test.YtmlbbhhjjepmkaaDoorChecked
import GoSem.Claim
import GoSem.ClaimJoined
import GoSem.ClaimMapViews
import Derived.JoinedTies
import Derived.KernelRfl
namespace Go.Proofs.YtmlbbhhjjepmkaaDoor
/- THE CELL 'sum', in the pinned program and in every row, IS THE sha256 OF THE DUMP (.gsa) THAT YtmlbbhhjjepmkaaDoorProg.lean LOADS. Nothing in Lean hashes anything: it is a label: what it is worth is what the hold of that sum in a sandbox is worth. -/
noncomputable def Tryd.pinned : Pinned := { name := "ytmlbbhhjjepmkaadoor", sum := "a9ae17092d224eb6db24fa80ce8779415337fd403b382e0fa4cefb67d80c98da", checked := Tryd.checked }
namespace Rows
def none {H : Type} : Left H := { results := [], args := [] }

/- WHAT THE LISTED PACKAGE-LEVEL VARIABLES READ AS WHEN THE CALL BEGINS. Each datum BY PROGRAM (the guide's laid-datum.mjs) off the statement by which the dump's own 'gosem.cut.vars' lays the variable. In a bare row this is a premise. The card (YtmlbbhhjjepmkaaDoorCards.lean) ties it to the program's text. -/
def laid_loop_example_g01380_impl_errNoFraction {H : Type} : DataW H := .iface "*errors.errorString" (.ptr (.agg [.lit (.string [110, 111, 116, 32, 97, 32, 102, 114, 97, 99, 116, 105, 111, 110])]))
def laid_loop_example_g01380_impl_identity {H : Type} : DataW H := .agg [.lit (.int .i64 1), .lit (.int .i64 0), .lit (.int .i64 0), .lit (.int .i64 1)]
def laid_loop_example_g01380_impl_matrixS {H : Type} : DataW H := .agg [.lit (.int .i64 0), .lit (.int .i64 (-1)), .lit (.int .i64 1), .lit (.int .i64 0)]

/-- 'laws.FnExactNextInRow': WHATEVER THE INPUT: true; the input reads as it did. -/
def fnExactNextInRowSpec : ChangeSpec := { name := "fnExactNextInRow", vars := ["loop.example/g01380/impl.errNoFraction"], fn := fun _ => fun
  | [d1, d2, g1] => { results := [.lit (.bool true)], args := [d1, d2], vars := [g1] }
  | _ => none }
def fnExactNextInRowRow : OpenClaim := { program := "ytmlbbhhjjepmkaadoor", sum := "a9ae17092d224eb6db24fa80ce8779415337fd403b382e0fa4cefb67d80c98da", func := "loop.example/g01380/laws.FnExactNextInRow", spec := "fnExactNextInRow", unfollowed := true, recurses := true, named := ["loop.example/g01380/impl.errNoFraction"], ifaces := true, plainKeys := false, apart := false, laid := [("loop.example/g01380/impl.errNoFraction", laid_loop_example_g01380_impl_errNoFraction)] }
def FnExactNextInRowSaid : Prop := fnExactNextInRowRow.holds Tryd.pinned (OpenSpec.ofChange fnExactNextInRowSpec)

/-- ITS FALSE NEIGHBOUR: 'it returns false'. Refute it at one input. -/
def fnExactNextInRowWrong : ChangeSpec := { name := "fnExactNextInRow", vars := ["loop.example/g01380/impl.errNoFraction"], fn := fun _ => fun
  | [d1, d2, g1] => { results := [.lit (.bool false)], args := [d1, d2], vars := [g1] }
  | _ => none }
def FnExactNextInRowWrongFalsely : Prop := fnExactNextInRowRow.holds Tryd.pinned (OpenSpec.ofChange fnExactNextInRowWrong)

/-- 'laws.FnExactOrderOf': WHATEVER THE INPUT: true; the input reads as it did. -/
def fnExactOrderOfSpec : ChangeSpec := { name := "fnExactOrderOf", vars := ["loop.example/g01380/impl.identity"], fn := fun _ => fun
  | [d, g1] => { results := [.lit (.bool true)], args := [d], vars := [g1] }
  | _ => none }
def fnExactOrderOfRow : OpenClaim := { program := "ytmlbbhhjjepmkaadoor", sum := "a9ae17092d224eb6db24fa80ce8779415337fd403b382e0fa4cefb67d80c98da", func := "loop.example/g01380/laws.FnExactOrderOf", spec := "fnExactOrderOf", named := ["loop.example/g01380/impl.identity"], plainKeys := false, apart := false, laid := [("loop.example/g01380/impl.identity", laid_loop_example_g01380_impl_identity)] }
def FnExactOrderOfSaid : Prop := fnExactOrderOfRow.holds Tryd.pinned (OpenSpec.ofChange fnExactOrderOfSpec)

/-- ITS FALSE NEIGHBOUR: 'it returns false'. Refute it at one input. -/
def fnExactOrderOfWrong : ChangeSpec := { name := "fnExactOrderOf", vars := ["loop.example/g01380/impl.identity"], fn := fun _ => fun
  | [d, g1] => { results := [.lit (.bool false)], args := [d], vars := [g1] }
  | _ => none }
def FnExactOrderOfWrongFalsely : Prop := fnExactOrderOfRow.holds Tryd.pinned (OpenSpec.ofChange fnExactOrderOfWrong)

/-- 'laws.FnExactDistanceOf': WHATEVER THE INPUT: true; the input reads as it did. -/
def fnExactDistanceOfSpec : ChangeSpec := { name := "fnExactDistanceOf", vars := ["loop.example/g01380/impl.errNoFraction", "loop.example/g01380/impl.identity", "loop.example/g01380/impl.matrixS"], fn := fun _ => fun
  | [d1, d2, g1, g2, g3] => { results := [.lit (.bool true)], args := [d1, d2], vars := [g1, g2, g3] }
  | _ => none }
def fnExactDistanceOfRow : OpenClaim := { program := "ytmlbbhhjjepmkaadoor", sum := "a9ae17092d224eb6db24fa80ce8779415337fd403b382e0fa4cefb67d80c98da", func := "loop.example/g01380/laws.FnExactDistanceOf", spec := "fnExactDistanceOf", unfollowed := true, recurses := true, named := ["loop.example/g01380/impl.errNoFraction", "loop.example/g01380/impl.identity", "loop.example/g01380/impl.matrixS"], ifaces := true, plainKeys := false, apart := false, laid := [("loop.example/g01380/impl.identity", laid_loop_example_g01380_impl_identity), ("loop.example/g01380/impl.matrixS", laid_loop_example_g01380_impl_matrixS), ("loop.example/g01380/impl.errNoFraction", laid_loop_example_g01380_impl_errNoFraction)] }
def FnExactDistanceOfSaid : Prop := fnExactDistanceOfRow.holds Tryd.pinned (OpenSpec.ofChange fnExactDistanceOfSpec)

/-- ITS FALSE NEIGHBOUR: 'it returns false'. Refute it at one input. -/
def fnExactDistanceOfWrong : ChangeSpec := { name := "fnExactDistanceOf", vars := ["loop.example/g01380/impl.errNoFraction", "loop.example/g01380/impl.identity", "loop.example/g01380/impl.matrixS"], fn := fun _ => fun
  | [d1, d2, g1, g2, g3] => { results := [.lit (.bool false)], args := [d1, d2], vars := [g1, g2, g3] }
  | _ => none }
def FnExactDistanceOfWrongFalsely : Prop := fnExactDistanceOfRow.holds Tryd.pinned (OpenSpec.ofChange fnExactDistanceOfWrong)

/- THE SECOND FORM. 'bulk': how many values and letters a reading holds, each counted each time it is reached (what is shared counts as often as it is met; a slice's spare places count too). A statement '..UptoSaid' is the law's where the arguments, and the package variables that the reading takes, are together of bulk at most 1048576: NARROWER than '..Said'. Prove '..Said' where nothing that the law and all that it calls make is longer than what came in: it says more and counts as full. Else prove '..UptoSaid'. A law counts once. -/
mutual
def uptoBulk {H : Type} : DataW H → Nat
  | .lit (.string bytes) => bytes.length + 1
  | .lit _ => 1
  | .nil => 1
  | .ptr d => uptoBulk d + 1
  | .slice elems spare => uptoBulkAll elems + uptoBulkAll spare + 1
  | .agg parts => uptoBulkAll parts + 1
  | .iface _ d => uptoBulk d + 1
  | .map entries => uptoBulkEntries entries + 1
  | .held _ => 1
def uptoBulkAll {H : Type} : List (DataW H) → Nat
  | [] => 0
  | d :: r => uptoBulk d + uptoBulkAll r
def uptoBulkEntries {H : Type} : List (Lit × DataW H) → Nat
  | [] => 0
  | x :: r => uptoBulkEntry x + uptoBulkEntries r
def uptoBulkEntry {H : Type} : Lit × DataW H → Nat
  | (.string bytes, d) => bytes.length + uptoBulk d + 1
  | (_, d) => uptoBulk d + 1
 end
def uptoSmall : (H : Type) → List (DataW H) → Bool := fun _ ds => decide (uptoBulkAll ds ≤ 1048576)
def OpenSpec.upto (s : _root_.Go.ChangeSpec) : _root_.Go.OpenSpec := { _root_.Go.OpenSpec.ofChange s with cond := some uptoSmall }

/-- 'laws.FnExactNextInRow', WHERE WHAT IT READS IS OF BULK AT MOST 1048576: true; the input reads as it did. -/
def fnExactNextInRowUptoRow : OpenClaim := { program := "ytmlbbhhjjepmkaadoor", sum := "a9ae17092d224eb6db24fa80ce8779415337fd403b382e0fa4cefb67d80c98da", func := "loop.example/g01380/laws.FnExactNextInRow", spec := "fnExactNextInRow", unfollowed := true, recurses := true, named := ["loop.example/g01380/impl.errNoFraction"], ifaces := true, plainKeys := false, apart := false, laid := [("loop.example/g01380/impl.errNoFraction", laid_loop_example_g01380_impl_errNoFraction)], narrowed := true }
def FnExactNextInRowUptoSaid : Prop := fnExactNextInRowUptoRow.holds Tryd.pinned (OpenSpec.upto fnExactNextInRowSpec)

/-- 'laws.FnExactOrderOf', WHERE WHAT IT READS IS OF BULK AT MOST 1048576: true; the input reads as it did. -/
def fnExactOrderOfUptoRow : OpenClaim := { program := "ytmlbbhhjjepmkaadoor", sum := "a9ae17092d224eb6db24fa80ce8779415337fd403b382e0fa4cefb67d80c98da", func := "loop.example/g01380/laws.FnExactOrderOf", spec := "fnExactOrderOf", named := ["loop.example/g01380/impl.identity"], plainKeys := false, apart := false, laid := [("loop.example/g01380/impl.identity", laid_loop_example_g01380_impl_identity)], narrowed := true }
def FnExactOrderOfUptoSaid : Prop := fnExactOrderOfUptoRow.holds Tryd.pinned (OpenSpec.upto fnExactOrderOfSpec)

/-- 'laws.FnExactDistanceOf', WHERE WHAT IT READS IS OF BULK AT MOST 1048576: true; the input reads as it did. -/
def fnExactDistanceOfUptoRow : OpenClaim := { program := "ytmlbbhhjjepmkaadoor", sum := "a9ae17092d224eb6db24fa80ce8779415337fd403b382e0fa4cefb67d80c98da", func := "loop.example/g01380/laws.FnExactDistanceOf", spec := "fnExactDistanceOf", unfollowed := true, recurses := true, named := ["loop.example/g01380/impl.errNoFraction", "loop.example/g01380/impl.identity", "loop.example/g01380/impl.matrixS"], ifaces := true, plainKeys := false, apart := false, laid := [("loop.example/g01380/impl.identity", laid_loop_example_g01380_impl_identity), ("loop.example/g01380/impl.matrixS", laid_loop_example_g01380_impl_matrixS), ("loop.example/g01380/impl.errNoFraction", laid_loop_example_g01380_impl_errNoFraction)], narrowed := true }
def FnExactDistanceOfUptoSaid : Prop := fnExactDistanceOfUptoRow.holds Tryd.pinned (OpenSpec.upto fnExactDistanceOfSpec)

end Rows
end Go.Proofs.YtmlbbhhjjepmkaaDoor
