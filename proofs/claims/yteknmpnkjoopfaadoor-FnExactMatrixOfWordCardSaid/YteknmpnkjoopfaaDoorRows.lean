/-
  NARROWER THAN 'FOR EVERY INPUT', by the rows' own cells (each row's printed sentence says how): FnExactChainOf: laid · FnExactMatrixOfRuns: laid · FnExactMatrixOfChain: laid · FnExactAreNeighbours: ifaces, laid · FnExactMediantOf: ifaces, laid · FnExactMatrixOfNeighbours: ifaces, laid · FnExactContinuedOf: ifaces, laid · FnExactConvergentsOf: ifaces, laid · FnExactMatrixOfWord: laid · FnExactNextInRow: ifaces, laid.
  DERIVED. THE GIVEN ROWS OF THIS SEAT. 10 by the template 'for every input the law returns true; each argument reads behind the call as it read before'; 0 by the template 'total and deterministic' (their statements: YteknmpnkjoopfaaDoorTotals.lean).
  GIVEN WITH THE SEED: the statements are not yours to turn. If you find one false, say at which input.
  Laid BY PROGRAM, IN A SANDBOX (cutbox-rows.mjs): the forced cells as the released guide's own fill.sh prints them over the translation e113e092538cc893… (all of the seat's roots in one cut). By AI agents, Wed Nov 11 2026. No macro, syntax, notation, axiom, sorry.
-/
import Derived.Test.YteknmpnkjoopfaaDoorChecked
import GoSem.Claim
import GoSem.ClaimJoined
import GoSem.ClaimMapViews
import Derived.JoinedTies
import Derived.KernelRfl
namespace Go.Proofs.YteknmpnkjoopfaaDoor
/- THE CELL 'sum', in the pinned program and in every row, IS THE sha256 OF THE DUMP (.gsa) THAT YteknmpnkjoopfaaDoorProg.lean LOADS. Nothing in Lean hashes anything: it is a label: what it is worth is what the hold of that sum in a sandbox is worth. -/
noncomputable def Tryd.pinned : Pinned := { name := "yteknmpnkjoopfaadoor", sum := "e113e092538cc8935fb5316d51d81fb082ac7769e4741192cc21fe60c944ee46", checked := Tryd.checked }
namespace Rows
def none {H : Type} : Left H := { results := [], args := [] }

/- WHAT THE LISTED PACKAGE-LEVEL VARIABLES READ AS WHEN THE CALL BEGINS. Each datum BY PROGRAM (the guide's laid-datum.mjs) off the statement by which the dump's own 'gosem.cut.vars' lays the variable. In a bare row this is a premise. The card (YteknmpnkjoopfaaDoorCards.lean) ties it to the program's text. -/
def laid_loop_example_g01380_impl_matrixS {H : Type} : DataW H := .agg [.lit (.int .i64 0), .lit (.int .i64 (-1)), .lit (.int .i64 1), .lit (.int .i64 0)]
def laid_loop_example_g01380_impl_identity {H : Type} : DataW H := .agg [.lit (.int .i64 1), .lit (.int .i64 0), .lit (.int .i64 0), .lit (.int .i64 1)]
def laid_loop_example_g01380_impl_errNoFraction {H : Type} : DataW H := .iface "*errors.errorString" (.ptr (.agg [.lit (.string [110, 111, 116, 32, 97, 32, 102, 114, 97, 99, 116, 105, 111, 110])]))

/-- 'laws.FnExactChainOf': WHATEVER THE INPUT: true; the input reads as it did. -/
def fnExactChainOfSpec : ChangeSpec := { name := "fnExactChainOf", vars := ["loop.example/g01380/impl.matrixS"], fn := fun _ => fun
  | [d, g1] => { results := [.lit (.bool true)], args := [d], vars := [g1] }
  | _ => none }
def fnExactChainOfRow : OpenClaim := { program := "yteknmpnkjoopfaadoor", sum := "e113e092538cc8935fb5316d51d81fb082ac7769e4741192cc21fe60c944ee46", func := "loop.example/g01380/laws.FnExactChainOf", spec := "fnExactChainOf", named := ["loop.example/g01380/impl.matrixS"], apart := false, laid := [("loop.example/g01380/impl.matrixS", laid_loop_example_g01380_impl_matrixS)] }
def FnExactChainOfSaid : Prop := fnExactChainOfRow.holds Tryd.pinned (OpenSpec.ofChange fnExactChainOfSpec)

/-- ITS FALSE NEIGHBOUR: 'it returns false'. Refute it at one input. -/
def fnExactChainOfWrong : ChangeSpec := { name := "fnExactChainOf", vars := ["loop.example/g01380/impl.matrixS"], fn := fun _ => fun
  | [d, g1] => { results := [.lit (.bool false)], args := [d], vars := [g1] }
  | _ => none }
def FnExactChainOfWrongFalsely : Prop := fnExactChainOfRow.holds Tryd.pinned (OpenSpec.ofChange fnExactChainOfWrong)

/-- 'laws.FnExactMatrixOfRuns': WHATEVER THE INPUT: true; the input reads as it did. -/
def fnExactMatrixOfRunsSpec : ChangeSpec := { name := "fnExactMatrixOfRuns", vars := ["loop.example/g01380/impl.identity"], fn := fun _ => fun
  | [d, g1] => { results := [.lit (.bool true)], args := [d], vars := [g1] }
  | _ => none }
def fnExactMatrixOfRunsRow : OpenClaim := { program := "yteknmpnkjoopfaadoor", sum := "e113e092538cc8935fb5316d51d81fb082ac7769e4741192cc21fe60c944ee46", func := "loop.example/g01380/laws.FnExactMatrixOfRuns", spec := "fnExactMatrixOfRuns", named := ["loop.example/g01380/impl.identity"], apart := false, laid := [("loop.example/g01380/impl.identity", laid_loop_example_g01380_impl_identity)] }
def FnExactMatrixOfRunsSaid : Prop := fnExactMatrixOfRunsRow.holds Tryd.pinned (OpenSpec.ofChange fnExactMatrixOfRunsSpec)

/-- ITS FALSE NEIGHBOUR: 'it returns false'. Refute it at one input. -/
def fnExactMatrixOfRunsWrong : ChangeSpec := { name := "fnExactMatrixOfRuns", vars := ["loop.example/g01380/impl.identity"], fn := fun _ => fun
  | [d, g1] => { results := [.lit (.bool false)], args := [d], vars := [g1] }
  | _ => none }
def FnExactMatrixOfRunsWrongFalsely : Prop := fnExactMatrixOfRunsRow.holds Tryd.pinned (OpenSpec.ofChange fnExactMatrixOfRunsWrong)

/-- 'laws.FnExactMatrixOfChain': WHATEVER THE INPUT: true; the input reads as it did. -/
def fnExactMatrixOfChainSpec : ChangeSpec := { name := "fnExactMatrixOfChain", vars := ["loop.example/g01380/impl.matrixS", "loop.example/g01380/impl.identity"], fn := fun _ => fun
  | [d1, d2, g1, g2] => { results := [.lit (.bool true)], args := [d1, d2], vars := [g1, g2] }
  | _ => none }
def fnExactMatrixOfChainRow : OpenClaim := { program := "yteknmpnkjoopfaadoor", sum := "e113e092538cc8935fb5316d51d81fb082ac7769e4741192cc21fe60c944ee46", func := "loop.example/g01380/laws.FnExactMatrixOfChain", spec := "fnExactMatrixOfChain", named := ["loop.example/g01380/impl.matrixS", "loop.example/g01380/impl.identity"], apart := false, laid := [("loop.example/g01380/impl.identity", laid_loop_example_g01380_impl_identity), ("loop.example/g01380/impl.matrixS", laid_loop_example_g01380_impl_matrixS)] }
def FnExactMatrixOfChainSaid : Prop := fnExactMatrixOfChainRow.holds Tryd.pinned (OpenSpec.ofChange fnExactMatrixOfChainSpec)

/-- ITS FALSE NEIGHBOUR: 'it returns false'. Refute it at one input. -/
def fnExactMatrixOfChainWrong : ChangeSpec := { name := "fnExactMatrixOfChain", vars := ["loop.example/g01380/impl.matrixS", "loop.example/g01380/impl.identity"], fn := fun _ => fun
  | [d1, d2, g1, g2] => { results := [.lit (.bool false)], args := [d1, d2], vars := [g1, g2] }
  | _ => none }
def FnExactMatrixOfChainWrongFalsely : Prop := fnExactMatrixOfChainRow.holds Tryd.pinned (OpenSpec.ofChange fnExactMatrixOfChainWrong)

/-- 'laws.FnExactAreNeighbours': WHATEVER THE INPUT: true; the input reads as it did. -/
def fnExactAreNeighboursSpec : ChangeSpec := { name := "fnExactAreNeighbours", vars := ["loop.example/g01380/impl.errNoFraction"], fn := fun _ => fun
  | [d1, d2, g1] => { results := [.lit (.bool true)], args := [d1, d2], vars := [g1] }
  | _ => none }
def fnExactAreNeighboursRow : OpenClaim := { program := "yteknmpnkjoopfaadoor", sum := "e113e092538cc8935fb5316d51d81fb082ac7769e4741192cc21fe60c944ee46", func := "loop.example/g01380/laws.FnExactAreNeighbours", spec := "fnExactAreNeighbours", unfollowed := true, recurses := true, named := ["loop.example/g01380/impl.errNoFraction"], ifaces := true, apart := false, laid := [("loop.example/g01380/impl.errNoFraction", laid_loop_example_g01380_impl_errNoFraction)] }
def FnExactAreNeighboursSaid : Prop := fnExactAreNeighboursRow.holds Tryd.pinned (OpenSpec.ofChange fnExactAreNeighboursSpec)

/-- ITS FALSE NEIGHBOUR: 'it returns false'. Refute it at one input. -/
def fnExactAreNeighboursWrong : ChangeSpec := { name := "fnExactAreNeighbours", vars := ["loop.example/g01380/impl.errNoFraction"], fn := fun _ => fun
  | [d1, d2, g1] => { results := [.lit (.bool false)], args := [d1, d2], vars := [g1] }
  | _ => none }
def FnExactAreNeighboursWrongFalsely : Prop := fnExactAreNeighboursRow.holds Tryd.pinned (OpenSpec.ofChange fnExactAreNeighboursWrong)

/-- 'laws.FnExactMediantOf': WHATEVER THE INPUT: true; the input reads as it did. -/
def fnExactMediantOfSpec : ChangeSpec := { name := "fnExactMediantOf", vars := ["loop.example/g01380/impl.errNoFraction"], fn := fun _ => fun
  | [d1, d2, g1] => { results := [.lit (.bool true)], args := [d1, d2], vars := [g1] }
  | _ => none }
def fnExactMediantOfRow : OpenClaim := { program := "yteknmpnkjoopfaadoor", sum := "e113e092538cc8935fb5316d51d81fb082ac7769e4741192cc21fe60c944ee46", func := "loop.example/g01380/laws.FnExactMediantOf", spec := "fnExactMediantOf", unfollowed := true, recurses := true, named := ["loop.example/g01380/impl.errNoFraction"], ifaces := true, apart := false, laid := [("loop.example/g01380/impl.errNoFraction", laid_loop_example_g01380_impl_errNoFraction)] }
def FnExactMediantOfSaid : Prop := fnExactMediantOfRow.holds Tryd.pinned (OpenSpec.ofChange fnExactMediantOfSpec)

/-- ITS FALSE NEIGHBOUR: 'it returns false'. Refute it at one input. -/
def fnExactMediantOfWrong : ChangeSpec := { name := "fnExactMediantOf", vars := ["loop.example/g01380/impl.errNoFraction"], fn := fun _ => fun
  | [d1, d2, g1] => { results := [.lit (.bool false)], args := [d1, d2], vars := [g1] }
  | _ => none }
def FnExactMediantOfWrongFalsely : Prop := fnExactMediantOfRow.holds Tryd.pinned (OpenSpec.ofChange fnExactMediantOfWrong)

/-- 'laws.FnExactMatrixOfNeighbours': WHATEVER THE INPUT: true; the input reads as it did. -/
def fnExactMatrixOfNeighboursSpec : ChangeSpec := { name := "fnExactMatrixOfNeighbours", vars := ["loop.example/g01380/impl.errNoFraction"], fn := fun _ => fun
  | [d1, d2, g1] => { results := [.lit (.bool true)], args := [d1, d2], vars := [g1] }
  | _ => none }
def fnExactMatrixOfNeighboursRow : OpenClaim := { program := "yteknmpnkjoopfaadoor", sum := "e113e092538cc8935fb5316d51d81fb082ac7769e4741192cc21fe60c944ee46", func := "loop.example/g01380/laws.FnExactMatrixOfNeighbours", spec := "fnExactMatrixOfNeighbours", unfollowed := true, recurses := true, named := ["loop.example/g01380/impl.errNoFraction"], ifaces := true, apart := false, laid := [("loop.example/g01380/impl.errNoFraction", laid_loop_example_g01380_impl_errNoFraction)] }
def FnExactMatrixOfNeighboursSaid : Prop := fnExactMatrixOfNeighboursRow.holds Tryd.pinned (OpenSpec.ofChange fnExactMatrixOfNeighboursSpec)

/-- ITS FALSE NEIGHBOUR: 'it returns false'. Refute it at one input. -/
def fnExactMatrixOfNeighboursWrong : ChangeSpec := { name := "fnExactMatrixOfNeighbours", vars := ["loop.example/g01380/impl.errNoFraction"], fn := fun _ => fun
  | [d1, d2, g1] => { results := [.lit (.bool false)], args := [d1, d2], vars := [g1] }
  | _ => none }
def FnExactMatrixOfNeighboursWrongFalsely : Prop := fnExactMatrixOfNeighboursRow.holds Tryd.pinned (OpenSpec.ofChange fnExactMatrixOfNeighboursWrong)

/-- 'laws.FnExactContinuedOf': WHATEVER THE INPUT: true; the input reads as it did. -/
def fnExactContinuedOfSpec : ChangeSpec := { name := "fnExactContinuedOf", vars := ["loop.example/g01380/impl.errNoFraction"], fn := fun _ => fun
  | [d, g1] => { results := [.lit (.bool true)], args := [d], vars := [g1] }
  | _ => none }
def fnExactContinuedOfRow : OpenClaim := { program := "yteknmpnkjoopfaadoor", sum := "e113e092538cc8935fb5316d51d81fb082ac7769e4741192cc21fe60c944ee46", func := "loop.example/g01380/laws.FnExactContinuedOf", spec := "fnExactContinuedOf", unfollowed := true, recurses := true, named := ["loop.example/g01380/impl.errNoFraction"], ifaces := true, apart := false, laid := [("loop.example/g01380/impl.errNoFraction", laid_loop_example_g01380_impl_errNoFraction)] }
def FnExactContinuedOfSaid : Prop := fnExactContinuedOfRow.holds Tryd.pinned (OpenSpec.ofChange fnExactContinuedOfSpec)

/-- ITS FALSE NEIGHBOUR: 'it returns false'. Refute it at one input. -/
def fnExactContinuedOfWrong : ChangeSpec := { name := "fnExactContinuedOf", vars := ["loop.example/g01380/impl.errNoFraction"], fn := fun _ => fun
  | [d, g1] => { results := [.lit (.bool false)], args := [d], vars := [g1] }
  | _ => none }
def FnExactContinuedOfWrongFalsely : Prop := fnExactContinuedOfRow.holds Tryd.pinned (OpenSpec.ofChange fnExactContinuedOfWrong)

/-- 'laws.FnExactConvergentsOf': WHATEVER THE INPUT: true; the input reads as it did. -/
def fnExactConvergentsOfSpec : ChangeSpec := { name := "fnExactConvergentsOf", vars := ["loop.example/g01380/impl.errNoFraction"], fn := fun _ => fun
  | [d, g1] => { results := [.lit (.bool true)], args := [d], vars := [g1] }
  | _ => none }
def fnExactConvergentsOfRow : OpenClaim := { program := "yteknmpnkjoopfaadoor", sum := "e113e092538cc8935fb5316d51d81fb082ac7769e4741192cc21fe60c944ee46", func := "loop.example/g01380/laws.FnExactConvergentsOf", spec := "fnExactConvergentsOf", unfollowed := true, recurses := true, named := ["loop.example/g01380/impl.errNoFraction"], ifaces := true, apart := false, laid := [("loop.example/g01380/impl.errNoFraction", laid_loop_example_g01380_impl_errNoFraction)] }
def FnExactConvergentsOfSaid : Prop := fnExactConvergentsOfRow.holds Tryd.pinned (OpenSpec.ofChange fnExactConvergentsOfSpec)

/-- ITS FALSE NEIGHBOUR: 'it returns false'. Refute it at one input. -/
def fnExactConvergentsOfWrong : ChangeSpec := { name := "fnExactConvergentsOf", vars := ["loop.example/g01380/impl.errNoFraction"], fn := fun _ => fun
  | [d, g1] => { results := [.lit (.bool false)], args := [d], vars := [g1] }
  | _ => none }
def FnExactConvergentsOfWrongFalsely : Prop := fnExactConvergentsOfRow.holds Tryd.pinned (OpenSpec.ofChange fnExactConvergentsOfWrong)

/-- 'laws.FnExactMatrixOfWord': WHATEVER THE INPUT: true; the input reads as it did. -/
def fnExactMatrixOfWordSpec : ChangeSpec := { name := "fnExactMatrixOfWord", vars := ["loop.example/g01380/impl.matrixS", "loop.example/g01380/impl.identity"], fn := fun _ => fun
  | [d, g1, g2] => { results := [.lit (.bool true)], args := [d], vars := [g1, g2] }
  | _ => none }
def fnExactMatrixOfWordRow : OpenClaim := { program := "yteknmpnkjoopfaadoor", sum := "e113e092538cc8935fb5316d51d81fb082ac7769e4741192cc21fe60c944ee46", func := "loop.example/g01380/laws.FnExactMatrixOfWord", spec := "fnExactMatrixOfWord", named := ["loop.example/g01380/impl.matrixS", "loop.example/g01380/impl.identity"], apart := false, laid := [("loop.example/g01380/impl.identity", laid_loop_example_g01380_impl_identity), ("loop.example/g01380/impl.matrixS", laid_loop_example_g01380_impl_matrixS)] }
def FnExactMatrixOfWordSaid : Prop := fnExactMatrixOfWordRow.holds Tryd.pinned (OpenSpec.ofChange fnExactMatrixOfWordSpec)

/-- ITS FALSE NEIGHBOUR: 'it returns false'. Refute it at one input. -/
def fnExactMatrixOfWordWrong : ChangeSpec := { name := "fnExactMatrixOfWord", vars := ["loop.example/g01380/impl.matrixS", "loop.example/g01380/impl.identity"], fn := fun _ => fun
  | [d, g1, g2] => { results := [.lit (.bool false)], args := [d], vars := [g1, g2] }
  | _ => none }
def FnExactMatrixOfWordWrongFalsely : Prop := fnExactMatrixOfWordRow.holds Tryd.pinned (OpenSpec.ofChange fnExactMatrixOfWordWrong)

/-- 'laws.FnExactNextInRow': WHATEVER THE INPUT: true; the input reads as it did. -/
def fnExactNextInRowSpec : ChangeSpec := { name := "fnExactNextInRow", vars := ["loop.example/g01380/impl.errNoFraction"], fn := fun _ => fun
  | [d1, d2, g1] => { results := [.lit (.bool true)], args := [d1, d2], vars := [g1] }
  | _ => none }
def fnExactNextInRowRow : OpenClaim := { program := "yteknmpnkjoopfaadoor", sum := "e113e092538cc8935fb5316d51d81fb082ac7769e4741192cc21fe60c944ee46", func := "loop.example/g01380/laws.FnExactNextInRow", spec := "fnExactNextInRow", unfollowed := true, recurses := true, named := ["loop.example/g01380/impl.errNoFraction"], ifaces := true, apart := false, laid := [("loop.example/g01380/impl.errNoFraction", laid_loop_example_g01380_impl_errNoFraction)] }
def FnExactNextInRowSaid : Prop := fnExactNextInRowRow.holds Tryd.pinned (OpenSpec.ofChange fnExactNextInRowSpec)

/-- ITS FALSE NEIGHBOUR: 'it returns false'. Refute it at one input. -/
def fnExactNextInRowWrong : ChangeSpec := { name := "fnExactNextInRow", vars := ["loop.example/g01380/impl.errNoFraction"], fn := fun _ => fun
  | [d1, d2, g1] => { results := [.lit (.bool false)], args := [d1, d2], vars := [g1] }
  | _ => none }
def FnExactNextInRowWrongFalsely : Prop := fnExactNextInRowRow.holds Tryd.pinned (OpenSpec.ofChange fnExactNextInRowWrong)

/- THE SECOND FORM. 'bulk': how many values and letters a reading holds, each counted each time it is reached (what is shared counts as often as it is met; a slice's spare places count too). A statement '..UptoSaid' is the law's where the arguments, and the package variables that the reading takes, are together of bulk at most 1048576: NARROWER than '..Said'. Prove '..Said' where nothing that the law and all that it calls make is longer than what came in: it says more and counts as full. Else prove '..UptoSaid'. A law counts once. -/
mutual
def uptoBulk {H : Type} : DataW H → Nat
  | .lit (.string bytes) => bytes.length + 1
  | .lit _ => 1
  | .nil => 1
  | .ptr d => uptoBulk d + 1
  | .slice elems spare => uptoBulkAll elems + uptoBulkAll spare + 1
  | .agg parts => uptoBulkAll parts + 1
  | .iface _ d => uptoBulk d + 1
  | .map entries => uptoBulkEntries entries + 1
  | .held _ => 1
def uptoBulkAll {H : Type} : List (DataW H) → Nat
  | [] => 0
  | d :: r => uptoBulk d + uptoBulkAll r
def uptoBulkEntries {H : Type} : List (Lit × DataW H) → Nat
  | [] => 0
  | x :: r => uptoBulkEntry x + uptoBulkEntries r
def uptoBulkEntry {H : Type} : Lit × DataW H → Nat
  | (.string bytes, d) => bytes.length + uptoBulk d + 1
  | (_, d) => uptoBulk d + 1
 end
def uptoSmall : (H : Type) → List (DataW H) → Bool := fun _ ds => decide (uptoBulkAll ds ≤ 1048576)
def OpenSpec.upto (s : _root_.Go.ChangeSpec) : _root_.Go.OpenSpec := { _root_.Go.OpenSpec.ofChange s with cond := some uptoSmall }

/-- 'laws.FnExactChainOf', WHERE WHAT IT READS IS OF BULK AT MOST 1048576: true; the input reads as it did. -/
def fnExactChainOfUptoRow : OpenClaim := { program := "yteknmpnkjoopfaadoor", sum := "e113e092538cc8935fb5316d51d81fb082ac7769e4741192cc21fe60c944ee46", func := "loop.example/g01380/laws.FnExactChainOf", spec := "fnExactChainOf", named := ["loop.example/g01380/impl.matrixS"], apart := false, laid := [("loop.example/g01380/impl.matrixS", laid_loop_example_g01380_impl_matrixS)], narrowed := true }
def FnExactChainOfUptoSaid : Prop := fnExactChainOfUptoRow.holds Tryd.pinned (OpenSpec.upto fnExactChainOfSpec)

/-- 'laws.FnExactMatrixOfRuns', WHERE WHAT IT READS IS OF BULK AT MOST 1048576: true; the input reads as it did. -/
def fnExactMatrixOfRunsUptoRow : OpenClaim := { program := "yteknmpnkjoopfaadoor", sum := "e113e092538cc8935fb5316d51d81fb082ac7769e4741192cc21fe60c944ee46", func := "loop.example/g01380/laws.FnExactMatrixOfRuns", spec := "fnExactMatrixOfRuns", named := ["loop.example/g01380/impl.identity"], apart := false, laid := [("loop.example/g01380/impl.identity", laid_loop_example_g01380_impl_identity)], narrowed := true }
def FnExactMatrixOfRunsUptoSaid : Prop := fnExactMatrixOfRunsUptoRow.holds Tryd.pinned (OpenSpec.upto fnExactMatrixOfRunsSpec)

/-- 'laws.FnExactMatrixOfChain', WHERE WHAT IT READS IS OF BULK AT MOST 1048576: true; the input reads as it did. -/
def fnExactMatrixOfChainUptoRow : OpenClaim := { program := "yteknmpnkjoopfaadoor", sum := "e113e092538cc8935fb5316d51d81fb082ac7769e4741192cc21fe60c944ee46", func := "loop.example/g01380/laws.FnExactMatrixOfChain", spec := "fnExactMatrixOfChain", named := ["loop.example/g01380/impl.matrixS", "loop.example/g01380/impl.identity"], apart := false, laid := [("loop.example/g01380/impl.identity", laid_loop_example_g01380_impl_identity), ("loop.example/g01380/impl.matrixS", laid_loop_example_g01380_impl_matrixS)], narrowed := true }
def FnExactMatrixOfChainUptoSaid : Prop := fnExactMatrixOfChainUptoRow.holds Tryd.pinned (OpenSpec.upto fnExactMatrixOfChainSpec)

/-- 'laws.FnExactAreNeighbours', WHERE WHAT IT READS IS OF BULK AT MOST 1048576: true; the input reads as it did. -/
def fnExactAreNeighboursUptoRow : OpenClaim := { program := "yteknmpnkjoopfaadoor", sum := "e113e092538cc8935fb5316d51d81fb082ac7769e4741192cc21fe60c944ee46", func := "loop.example/g01380/laws.FnExactAreNeighbours", spec := "fnExactAreNeighbours", unfollowed := true, recurses := true, named := ["loop.example/g01380/impl.errNoFraction"], ifaces := true, apart := false, laid := [("loop.example/g01380/impl.errNoFraction", laid_loop_example_g01380_impl_errNoFraction)], narrowed := true }
def FnExactAreNeighboursUptoSaid : Prop := fnExactAreNeighboursUptoRow.holds Tryd.pinned (OpenSpec.upto fnExactAreNeighboursSpec)

/-- 'laws.FnExactMediantOf', WHERE WHAT IT READS IS OF BULK AT MOST 1048576: true; the input reads as it did. -/
def fnExactMediantOfUptoRow : OpenClaim := { program := "yteknmpnkjoopfaadoor", sum := "e113e092538cc8935fb5316d51d81fb082ac7769e4741192cc21fe60c944ee46", func := "loop.example/g01380/laws.FnExactMediantOf", spec := "fnExactMediantOf", unfollowed := true, recurses := true, named := ["loop.example/g01380/impl.errNoFraction"], ifaces := true, apart := false, laid := [("loop.example/g01380/impl.errNoFraction", laid_loop_example_g01380_impl_errNoFraction)], narrowed := true }
def FnExactMediantOfUptoSaid : Prop := fnExactMediantOfUptoRow.holds Tryd.pinned (OpenSpec.upto fnExactMediantOfSpec)

/-- 'laws.FnExactMatrixOfNeighbours', WHERE WHAT IT READS IS OF BULK AT MOST 1048576: true; the input reads as it did. -/
def fnExactMatrixOfNeighboursUptoRow : OpenClaim := { program := "yteknmpnkjoopfaadoor", sum := "e113e092538cc8935fb5316d51d81fb082ac7769e4741192cc21fe60c944ee46", func := "loop.example/g01380/laws.FnExactMatrixOfNeighbours", spec := "fnExactMatrixOfNeighbours", unfollowed := true, recurses := true, named := ["loop.example/g01380/impl.errNoFraction"], ifaces := true, apart := false, laid := [("loop.example/g01380/impl.errNoFraction", laid_loop_example_g01380_impl_errNoFraction)], narrowed := true }
def FnExactMatrixOfNeighboursUptoSaid : Prop := fnExactMatrixOfNeighboursUptoRow.holds Tryd.pinned (OpenSpec.upto fnExactMatrixOfNeighboursSpec)

/-- 'laws.FnExactContinuedOf', WHERE WHAT IT READS IS OF BULK AT MOST 1048576: true; the input reads as it did. -/
def fnExactContinuedOfUptoRow : OpenClaim := { program := "yteknmpnkjoopfaadoor", sum := "e113e092538cc8935fb5316d51d81fb082ac7769e4741192cc21fe60c944ee46", func := "loop.example/g01380/laws.FnExactContinuedOf", spec := "fnExactContinuedOf", unfollowed := true, recurses := true, named := ["loop.example/g01380/impl.errNoFraction"], ifaces := true, apart := false, laid := [("loop.example/g01380/impl.errNoFraction", laid_loop_example_g01380_impl_errNoFraction)], narrowed := true }
def FnExactContinuedOfUptoSaid : Prop := fnExactContinuedOfUptoRow.holds Tryd.pinned (OpenSpec.upto fnExactContinuedOfSpec)

/-- 'laws.FnExactConvergentsOf', WHERE WHAT IT READS IS OF BULK AT MOST 1048576: true; the input reads as it did. -/
def fnExactConvergentsOfUptoRow : OpenClaim := { program := "yteknmpnkjoopfaadoor", sum := "e113e092538cc8935fb5316d51d81fb082ac7769e4741192cc21fe60c944ee46", func := "loop.example/g01380/laws.FnExactConvergentsOf", spec := "fnExactConvergentsOf", unfollowed := true, recurses := true, named := ["loop.example/g01380/impl.errNoFraction"], ifaces := true, apart := false, laid := [("loop.example/g01380/impl.errNoFraction", laid_loop_example_g01380_impl_errNoFraction)], narrowed := true }
def FnExactConvergentsOfUptoSaid : Prop := fnExactConvergentsOfUptoRow.holds Tryd.pinned (OpenSpec.upto fnExactConvergentsOfSpec)

/-- 'laws.FnExactMatrixOfWord', WHERE WHAT IT READS IS OF BULK AT MOST 1048576: true; the input reads as it did. -/
def fnExactMatrixOfWordUptoRow : OpenClaim := { program := "yteknmpnkjoopfaadoor", sum := "e113e092538cc8935fb5316d51d81fb082ac7769e4741192cc21fe60c944ee46", func := "loop.example/g01380/laws.FnExactMatrixOfWord", spec := "fnExactMatrixOfWord", named := ["loop.example/g01380/impl.matrixS", "loop.example/g01380/impl.identity"], apart := false, laid := [("loop.example/g01380/impl.identity", laid_loop_example_g01380_impl_identity), ("loop.example/g01380/impl.matrixS", laid_loop_example_g01380_impl_matrixS)], narrowed := true }
def FnExactMatrixOfWordUptoSaid : Prop := fnExactMatrixOfWordUptoRow.holds Tryd.pinned (OpenSpec.upto fnExactMatrixOfWordSpec)

/-- 'laws.FnExactNextInRow', WHERE WHAT IT READS IS OF BULK AT MOST 1048576: true; the input reads as it did. -/
def fnExactNextInRowUptoRow : OpenClaim := { program := "yteknmpnkjoopfaadoor", sum := "e113e092538cc8935fb5316d51d81fb082ac7769e4741192cc21fe60c944ee46", func := "loop.example/g01380/laws.FnExactNextInRow", spec := "fnExactNextInRow", unfollowed := true, recurses := true, named := ["loop.example/g01380/impl.errNoFraction"], ifaces := true, apart := false, laid := [("loop.example/g01380/impl.errNoFraction", laid_loop_example_g01380_impl_errNoFraction)], narrowed := true }
def FnExactNextInRowUptoSaid : Prop := fnExactNextInRowUptoRow.holds Tryd.pinned (OpenSpec.upto fnExactNextInRowSpec)

end Rows
end Go.Proofs.YteknmpnkjoopfaaDoor
