/-
  NARROWER THAN 'FOR EVERY INPUT', by the rows' own cells (each row's printed sentence says how): FnExactFormOfMatrix: laid · FnExactReduceForm: laid.
  DERIVED. THE GIVEN ROWS OF THIS SEAT. 2 by the template 'for every input the law returns true; each argument reads behind the call as it read before'; 0 by the template 'total and deterministic' (their statements: YtfpgdbdgglbleaaDoorTotals.lean).
  GIVEN WITH THE SEED: the statements are not yours to turn. If you find one false, say at which input.
  Laid BY PROGRAM, IN A SANDBOX (cutbox-rows.mjs): the forced cells as the released guide's own fill.sh prints them over the translation 6f463ab709c07bce… (all of the seat's roots in one cut). By AI agents, Wed Nov 11 2026. No macro, syntax, notation, axiom, sorry.
-/
import Derived.Test.YtfpgdbdgglbleaaDoorChecked
import GoSem.Claim
import GoSem.ClaimJoined
import GoSem.ClaimMapViews
import Derived.JoinedTies
import Derived.KernelRfl
namespace Go.Proofs.YtfpgdbdgglbleaaDoor
/- THE CELL 'sum', in the pinned program and in every row, IS THE sha256 OF THE DUMP (.gsa) THAT YtfpgdbdgglbleaaDoorProg.lean LOADS. Nothing in Lean hashes anything: it is a label: what it is worth is what the hold of that sum in a sandbox is worth. -/
noncomputable def Tryd.pinned : Pinned := { name := "ytfpgdbdgglbleaadoor", sum := "6f463ab709c07bcecacf9ae27392977bfdca54c7f144569fccebfa8785b71b0c", checked := Tryd.checked }
namespace Rows
def none {H : Type} : Left H := { results := [], args := [] }

/- WHAT THE LISTED PACKAGE-LEVEL VARIABLES READ AS WHEN THE CALL BEGINS. Each datum BY PROGRAM (the guide's laid-datum.mjs) off the statement by which the dump's own 'gosem.cut.vars' lays the variable. In a bare row this is a premise. The card (YtfpgdbdgglbleaaDoorCards.lean) ties it to the program's text. -/
def laid_loop_example_g01380_impl_identity {H : Type} : DataW H := .agg [.lit (.int .i64 1), .lit (.int .i64 0), .lit (.int .i64 0), .lit (.int .i64 1)]
def laid_loop_example_g01380_impl_matrixS {H : Type} : DataW H := .agg [.lit (.int .i64 0), .lit (.int .i64 (-1)), .lit (.int .i64 1), .lit (.int .i64 0)]

/-- 'laws.FnExactFormOfMatrix': WHATEVER THE INPUT: true; the input reads as it did. -/
def fnExactFormOfMatrixSpec : ChangeSpec := { name := "fnExactFormOfMatrix", vars := ["loop.example/g01380/impl.identity"], fn := fun _ => fun
  | [d, g1] => { results := [.lit (.bool true)], args := [d], vars := [g1] }
  | _ => none }
def fnExactFormOfMatrixRow : OpenClaim := { program := "ytfpgdbdgglbleaadoor", sum := "6f463ab709c07bcecacf9ae27392977bfdca54c7f144569fccebfa8785b71b0c", func := "loop.example/g01380/laws.FnExactFormOfMatrix", spec := "fnExactFormOfMatrix", named := ["loop.example/g01380/impl.identity"], apart := false, laid := [("loop.example/g01380/impl.identity", laid_loop_example_g01380_impl_identity)] }
def FnExactFormOfMatrixSaid : Prop := fnExactFormOfMatrixRow.holds Tryd.pinned (OpenSpec.ofChange fnExactFormOfMatrixSpec)

/-- ITS FALSE NEIGHBOUR: 'it returns false'. Refute it at one input. -/
def fnExactFormOfMatrixWrong : ChangeSpec := { name := "fnExactFormOfMatrix", vars := ["loop.example/g01380/impl.identity"], fn := fun _ => fun
  | [d, g1] => { results := [.lit (.bool false)], args := [d], vars := [g1] }
  | _ => none }
def FnExactFormOfMatrixWrongFalsely : Prop := fnExactFormOfMatrixRow.holds Tryd.pinned (OpenSpec.ofChange fnExactFormOfMatrixWrong)

/-- 'laws.FnExactReduceForm': WHATEVER THE INPUT: true; the input reads as it did. -/
def fnExactReduceFormSpec : ChangeSpec := { name := "fnExactReduceForm", vars := ["loop.example/g01380/impl.identity", "loop.example/g01380/impl.matrixS"], fn := fun _ => fun
  | [d, g1, g2] => { results := [.lit (.bool true)], args := [d], vars := [g1, g2] }
  | _ => none }
def fnExactReduceFormRow : OpenClaim := { program := "ytfpgdbdgglbleaadoor", sum := "6f463ab709c07bcecacf9ae27392977bfdca54c7f144569fccebfa8785b71b0c", func := "loop.example/g01380/laws.FnExactReduceForm", spec := "fnExactReduceForm", named := ["loop.example/g01380/impl.identity", "loop.example/g01380/impl.matrixS"], apart := false, laid := [("loop.example/g01380/impl.identity", laid_loop_example_g01380_impl_identity), ("loop.example/g01380/impl.matrixS", laid_loop_example_g01380_impl_matrixS)] }
def FnExactReduceFormSaid : Prop := fnExactReduceFormRow.holds Tryd.pinned (OpenSpec.ofChange fnExactReduceFormSpec)

/-- ITS FALSE NEIGHBOUR: 'it returns false'. Refute it at one input. -/
def fnExactReduceFormWrong : ChangeSpec := { name := "fnExactReduceForm", vars := ["loop.example/g01380/impl.identity", "loop.example/g01380/impl.matrixS"], fn := fun _ => fun
  | [d, g1, g2] => { results := [.lit (.bool false)], args := [d], vars := [g1, g2] }
  | _ => none }
def FnExactReduceFormWrongFalsely : Prop := fnExactReduceFormRow.holds Tryd.pinned (OpenSpec.ofChange fnExactReduceFormWrong)

/- THE SECOND FORM. 'bulk': how many values and letters a reading holds, each counted each time it is reached (what is shared counts as often as it is met; a slice's spare places count too). A statement '..UptoSaid' is the law's where the arguments, and the package variables that the reading takes, are together of bulk at most 1048576: NARROWER than '..Said'. Prove '..Said' where nothing that the law and all that it calls make is longer than what came in: it says more and counts as full. Else prove '..UptoSaid'. A law counts once. -/
mutual
def uptoBulk {H : Type} : DataW H → Nat
  | .lit (.string bytes) => bytes.length + 1
  | .lit _ => 1
  | .nil => 1
  | .ptr d => uptoBulk d + 1
  | .slice elems spare => uptoBulkAll elems + uptoBulkAll spare + 1
  | .agg parts => uptoBulkAll parts + 1
  | .iface _ d => uptoBulk d + 1
  | .map entries => uptoBulkEntries entries + 1
  | .held _ => 1
def uptoBulkAll {H : Type} : List (DataW H) → Nat
  | [] => 0
  | d :: r => uptoBulk d + uptoBulkAll r
def uptoBulkEntries {H : Type} : List (Lit × DataW H) → Nat
  | [] => 0
  | x :: r => uptoBulkEntry x + uptoBulkEntries r
def uptoBulkEntry {H : Type} : Lit × DataW H → Nat
  | (.string bytes, d) => bytes.length + uptoBulk d + 1
  | (_, d) => uptoBulk d + 1
 end
def uptoSmall : (H : Type) → List (DataW H) → Bool := fun _ ds => decide (uptoBulkAll ds ≤ 1048576)
def OpenSpec.upto (s : _root_.Go.ChangeSpec) : _root_.Go.OpenSpec := { _root_.Go.OpenSpec.ofChange s with cond := some uptoSmall }

/-- 'laws.FnExactFormOfMatrix', WHERE WHAT IT READS IS OF BULK AT MOST 1048576: true; the input reads as it did. -/
def fnExactFormOfMatrixUptoRow : OpenClaim := { program := "ytfpgdbdgglbleaadoor", sum := "6f463ab709c07bcecacf9ae27392977bfdca54c7f144569fccebfa8785b71b0c", func := "loop.example/g01380/laws.FnExactFormOfMatrix", spec := "fnExactFormOfMatrix", named := ["loop.example/g01380/impl.identity"], apart := false, laid := [("loop.example/g01380/impl.identity", laid_loop_example_g01380_impl_identity)], narrowed := true }
def FnExactFormOfMatrixUptoSaid : Prop := fnExactFormOfMatrixUptoRow.holds Tryd.pinned (OpenSpec.upto fnExactFormOfMatrixSpec)

/-- 'laws.FnExactReduceForm', WHERE WHAT IT READS IS OF BULK AT MOST 1048576: true; the input reads as it did. -/
def fnExactReduceFormUptoRow : OpenClaim := { program := "ytfpgdbdgglbleaadoor", sum := "6f463ab709c07bcecacf9ae27392977bfdca54c7f144569fccebfa8785b71b0c", func := "loop.example/g01380/laws.FnExactReduceForm", spec := "fnExactReduceForm", named := ["loop.example/g01380/impl.identity", "loop.example/g01380/impl.matrixS"], apart := false, laid := [("loop.example/g01380/impl.identity", laid_loop_example_g01380_impl_identity), ("loop.example/g01380/impl.matrixS", laid_loop_example_g01380_impl_matrixS)], narrowed := true }
def FnExactReduceFormUptoSaid : Prop := fnExactReduceFormUptoRow.holds Tryd.pinned (OpenSpec.upto fnExactReduceFormSpec)

end Rows
end Go.Proofs.YtfpgdbdgglbleaaDoor
