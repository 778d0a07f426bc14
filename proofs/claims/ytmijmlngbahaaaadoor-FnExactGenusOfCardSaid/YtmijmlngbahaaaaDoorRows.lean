/-
  NARROWER THAN 'FOR EVERY INPUT', by the rows' own cells (each row's printed sentence says how): FnExactCosetMatrix: laid · FnExactCuspOfFraction: laid · FnExactCountKept: laid · FnExactGenusOf: laid.
  DERIVED. THE GIVEN ROWS OF THIS SEAT. 4 by the template 'for every input the law returns true; each argument reads behind the call as it read before'; 0 by the template 'total and deterministic' (their statements: YtmijmlngbahaaaaDoorTotals.lean).
  GIVEN WITH THE SEED: the statements are not yours to turn. If you find one false, say at which input.
  Laid BY PROGRAM, IN A SANDBOX (cutbox-rows.mjs): the forced cells as the released guide's own fill.sh prints them over the translation 1e94578e9e9dd584… (all of the seat's roots in one cut). By AI agents, Wed Nov 11 2026. No macro, syntax, notation, axiom, sorry.
-/
import Derived.Test.YtmijmlngbahaaaaDoorChecked
import GoSem.Claim
import GoSem.ClaimJoined
import GoSem.ClaimMapViews
import Derived.JoinedTies
import Derived.KernelRfl
namespace Go.Proofs.YtmijmlngbahaaaaDoor
/- THE CELL 'sum', in the pinned program and in every row, IS THE sha256 OF THE DUMP (.gsa) THAT YtmijmlngbahaaaaDoorProg.lean LOADS. Nothing in Lean hashes anything: it is a label: what it is worth is what the hold of that sum in a sandbox is worth. -/
noncomputable def Tryd.pinned : Pinned := { name := "ytmijmlngbahaaaadoor", sum := "1e94578e9e9dd5849bab7acb7960ca27ba831b0ef1db454c250e84e1d4e6fa64", checked := Tryd.checked }
namespace Rows
def none {H : Type} : Left H := { results := [], args := [] }

/- WHAT THE LISTED PACKAGE-LEVEL VARIABLES READ AS WHEN THE CALL BEGINS. Each datum BY PROGRAM (the guide's laid-datum.mjs) off the statement by which the dump's own 'gosem.cut.vars' lays the variable. In a bare row this is a premise. The card (YtmijmlngbahaaaaDoorCards.lean) ties it to the program's text. -/
def laid_loop_example_g01380_impl_identity {H : Type} : DataW H := .agg [.lit (.int .i64 1), .lit (.int .i64 0), .lit (.int .i64 0), .lit (.int .i64 1)]
def laid_loop_example_g01380_impl_matrixS {H : Type} : DataW H := .agg [.lit (.int .i64 0), .lit (.int .i64 (-1)), .lit (.int .i64 1), .lit (.int .i64 0)]

/-- 'laws.FnExactCosetMatrix': WHATEVER THE INPUT: true; the input reads as it did. -/
def fnExactCosetMatrixSpec : ChangeSpec := { name := "fnExactCosetMatrix", vars := ["loop.example/g01380/impl.identity"], fn := fun _ => fun
  | [d1, d2, g1] => { results := [.lit (.bool true)], args := [d1, d2], vars := [g1] }
  | _ => none }
def fnExactCosetMatrixRow : OpenClaim := { program := "ytmijmlngbahaaaadoor", sum := "1e94578e9e9dd5849bab7acb7960ca27ba831b0ef1db454c250e84e1d4e6fa64", func := "loop.example/g01380/laws.FnExactCosetMatrix", spec := "fnExactCosetMatrix", unfollowed := true, recurses := true, named := ["loop.example/g01380/impl.identity"], plainKeys := false, apart := false, laid := [("loop.example/g01380/impl.identity", laid_loop_example_g01380_impl_identity)] }
def FnExactCosetMatrixSaid : Prop := fnExactCosetMatrixRow.holds Tryd.pinned (OpenSpec.ofChange fnExactCosetMatrixSpec)

/-- ITS FALSE NEIGHBOUR: 'it returns false'. Refute it at one input. -/
def fnExactCosetMatrixWrong : ChangeSpec := { name := "fnExactCosetMatrix", vars := ["loop.example/g01380/impl.identity"], fn := fun _ => fun
  | [d1, d2, g1] => { results := [.lit (.bool false)], args := [d1, d2], vars := [g1] }
  | _ => none }
def FnExactCosetMatrixWrongFalsely : Prop := fnExactCosetMatrixRow.holds Tryd.pinned (OpenSpec.ofChange fnExactCosetMatrixWrong)

/-- 'laws.FnExactCuspOfFraction': WHATEVER THE INPUT: true; the input reads as it did. -/
def fnExactCuspOfFractionSpec : ChangeSpec := { name := "fnExactCuspOfFraction", vars := ["loop.example/g01380/impl.identity"], fn := fun _ => fun
  | [d1, d2, g1] => { results := [.lit (.bool true)], args := [d1, d2], vars := [g1] }
  | _ => none }
def fnExactCuspOfFractionRow : OpenClaim := { program := "ytmijmlngbahaaaadoor", sum := "1e94578e9e9dd5849bab7acb7960ca27ba831b0ef1db454c250e84e1d4e6fa64", func := "loop.example/g01380/laws.FnExactCuspOfFraction", spec := "fnExactCuspOfFraction", unfollowed := true, recurses := true, named := ["loop.example/g01380/impl.identity"], plainKeys := false, apart := false, laid := [("loop.example/g01380/impl.identity", laid_loop_example_g01380_impl_identity)] }
def FnExactCuspOfFractionSaid : Prop := fnExactCuspOfFractionRow.holds Tryd.pinned (OpenSpec.ofChange fnExactCuspOfFractionSpec)

/-- ITS FALSE NEIGHBOUR: 'it returns false'. Refute it at one input. -/
def fnExactCuspOfFractionWrong : ChangeSpec := { name := "fnExactCuspOfFraction", vars := ["loop.example/g01380/impl.identity"], fn := fun _ => fun
  | [d1, d2, g1] => { results := [.lit (.bool false)], args := [d1, d2], vars := [g1] }
  | _ => none }
def FnExactCuspOfFractionWrongFalsely : Prop := fnExactCuspOfFractionRow.holds Tryd.pinned (OpenSpec.ofChange fnExactCuspOfFractionWrong)

/-- 'laws.FnExactCountKept': WHATEVER THE INPUT: true; the input reads as it did. -/
def fnExactCountKeptSpec : ChangeSpec := { name := "fnExactCountKept", vars := ["loop.example/g01380/impl.matrixS", "loop.example/g01380/impl.identity"], fn := fun _ => fun
  | [d, g1, g2] => { results := [.lit (.bool true)], args := [d], vars := [g1, g2] }
  | _ => none }
def fnExactCountKeptRow : OpenClaim := { program := "ytmijmlngbahaaaadoor", sum := "1e94578e9e9dd5849bab7acb7960ca27ba831b0ef1db454c250e84e1d4e6fa64", func := "loop.example/g01380/laws.FnExactCountKept", spec := "fnExactCountKept", unfollowed := true, recurses := true, named := ["loop.example/g01380/impl.matrixS", "loop.example/g01380/impl.identity"], plainKeys := false, apart := false, laid := [("loop.example/g01380/impl.identity", laid_loop_example_g01380_impl_identity), ("loop.example/g01380/impl.matrixS", laid_loop_example_g01380_impl_matrixS)] }
def FnExactCountKeptSaid : Prop := fnExactCountKeptRow.holds Tryd.pinned (OpenSpec.ofChange fnExactCountKeptSpec)

/-- ITS FALSE NEIGHBOUR: 'it returns false'. Refute it at one input. -/
def fnExactCountKeptWrong : ChangeSpec := { name := "fnExactCountKept", vars := ["loop.example/g01380/impl.matrixS", "loop.example/g01380/impl.identity"], fn := fun _ => fun
  | [d, g1, g2] => { results := [.lit (.bool false)], args := [d], vars := [g1, g2] }
  | _ => none }
def FnExactCountKeptWrongFalsely : Prop := fnExactCountKeptRow.holds Tryd.pinned (OpenSpec.ofChange fnExactCountKeptWrong)

/-- 'laws.FnExactGenusOf': WHATEVER THE INPUT: true; the input reads as it did. -/
def fnExactGenusOfSpec : ChangeSpec := { name := "fnExactGenusOf", vars := ["loop.example/g01380/impl.matrixS", "loop.example/g01380/impl.identity"], fn := fun _ => fun
  | [d, g1, g2] => { results := [.lit (.bool true)], args := [d], vars := [g1, g2] }
  | _ => none }
def fnExactGenusOfRow : OpenClaim := { program := "ytmijmlngbahaaaadoor", sum := "1e94578e9e9dd5849bab7acb7960ca27ba831b0ef1db454c250e84e1d4e6fa64", func := "loop.example/g01380/laws.FnExactGenusOf", spec := "fnExactGenusOf", unfollowed := true, recurses := true, named := ["loop.example/g01380/impl.matrixS", "loop.example/g01380/impl.identity"], plainKeys := false, apart := false, laid := [("loop.example/g01380/impl.identity", laid_loop_example_g01380_impl_identity), ("loop.example/g01380/impl.matrixS", laid_loop_example_g01380_impl_matrixS)] }
def FnExactGenusOfSaid : Prop := fnExactGenusOfRow.holds Tryd.pinned (OpenSpec.ofChange fnExactGenusOfSpec)

/-- ITS FALSE NEIGHBOUR: 'it returns false'. Refute it at one input. -/
def fnExactGenusOfWrong : ChangeSpec := { name := "fnExactGenusOf", vars := ["loop.example/g01380/impl.matrixS", "loop.example/g01380/impl.identity"], fn := fun _ => fun
  | [d, g1, g2] => { results := [.lit (.bool false)], args := [d], vars := [g1, g2] }
  | _ => none }
def FnExactGenusOfWrongFalsely : Prop := fnExactGenusOfRow.holds Tryd.pinned (OpenSpec.ofChange fnExactGenusOfWrong)

/- THE SECOND FORM. 'bulk': how many values and letters a reading holds, each counted each time it is reached (what is shared counts as often as it is met; a slice's spare places count too). A statement '..UptoSaid' is the law's where the arguments, and the package variables that the reading takes, are together of bulk at most 1048576: NARROWER than '..Said'. Prove '..Said' where nothing that the law and all that it calls make is longer than what came in: it says more and counts as full. Else prove '..UptoSaid'. A law counts once. -/
mutual
def uptoBulk {H : Type} : DataW H → Nat
  | .lit (.string bytes) => bytes.length + 1
  | .lit _ => 1
  | .nil => 1
  | .ptr d => uptoBulk d + 1
  | .slice elems spare => uptoBulkAll elems + uptoBulkAll spare + 1
  | .agg parts => uptoBulkAll parts + 1
  | .iface _ d => uptoBulk d + 1
  | .map entries => uptoBulkEntries entries + 1
  | .held _ => 1
def uptoBulkAll {H : Type} : List (DataW H) → Nat
  | [] => 0
  | d :: r => uptoBulk d + uptoBulkAll r
def uptoBulkEntries {H : Type} : List (Lit × DataW H) → Nat
  | [] => 0
  | x :: r => uptoBulkEntry x + uptoBulkEntries r
def uptoBulkEntry {H : Type} : Lit × DataW H → Nat
  | (.string bytes, d) => bytes.length + uptoBulk d + 1
  | (_, d) => uptoBulk d + 1
 end
def uptoSmall : (H : Type) → List (DataW H) → Bool := fun _ ds => decide (uptoBulkAll ds ≤ 1048576)
def OpenSpec.upto (s : _root_.Go.ChangeSpec) : _root_.Go.OpenSpec := { _root_.Go.OpenSpec.ofChange s with cond := some uptoSmall }

/-- 'laws.FnExactCosetMatrix', WHERE WHAT IT READS IS OF BULK AT MOST 1048576: true; the input reads as it did. -/
def fnExactCosetMatrixUptoRow : OpenClaim := { program := "ytmijmlngbahaaaadoor", sum := "1e94578e9e9dd5849bab7acb7960ca27ba831b0ef1db454c250e84e1d4e6fa64", func := "loop.example/g01380/laws.FnExactCosetMatrix", spec := "fnExactCosetMatrix", unfollowed := true, recurses := true, named := ["loop.example/g01380/impl.identity"], plainKeys := false, apart := false, laid := [("loop.example/g01380/impl.identity", laid_loop_example_g01380_impl_identity)], narrowed := true }
def FnExactCosetMatrixUptoSaid : Prop := fnExactCosetMatrixUptoRow.holds Tryd.pinned (OpenSpec.upto fnExactCosetMatrixSpec)

/-- 'laws.FnExactCuspOfFraction', WHERE WHAT IT READS IS OF BULK AT MOST 1048576: true; the input reads as it did. -/
def fnExactCuspOfFractionUptoRow : OpenClaim := { program := "ytmijmlngbahaaaadoor", sum := "1e94578e9e9dd5849bab7acb7960ca27ba831b0ef1db454c250e84e1d4e6fa64", func := "loop.example/g01380/laws.FnExactCuspOfFraction", spec := "fnExactCuspOfFraction", unfollowed := true, recurses := true, named := ["loop.example/g01380/impl.identity"], plainKeys := false, apart := false, laid := [("loop.example/g01380/impl.identity", laid_loop_example_g01380_impl_identity)], narrowed := true }
def FnExactCuspOfFractionUptoSaid : Prop := fnExactCuspOfFractionUptoRow.holds Tryd.pinned (OpenSpec.upto fnExactCuspOfFractionSpec)

/-- 'laws.FnExactCountKept', WHERE WHAT IT READS IS OF BULK AT MOST 1048576: true; the input reads as it did. -/
def fnExactCountKeptUptoRow : OpenClaim := { program := "ytmijmlngbahaaaadoor", sum := "1e94578e9e9dd5849bab7acb7960ca27ba831b0ef1db454c250e84e1d4e6fa64", func := "loop.example/g01380/laws.FnExactCountKept", spec := "fnExactCountKept", unfollowed := true, recurses := true, named := ["loop.example/g01380/impl.matrixS", "loop.example/g01380/impl.identity"], plainKeys := false, apart := false, laid := [("loop.example/g01380/impl.identity", laid_loop_example_g01380_impl_identity), ("loop.example/g01380/impl.matrixS", laid_loop_example_g01380_impl_matrixS)], narrowed := true }
def FnExactCountKeptUptoSaid : Prop := fnExactCountKeptUptoRow.holds Tryd.pinned (OpenSpec.upto fnExactCountKeptSpec)

/-- 'laws.FnExactGenusOf', WHERE WHAT IT READS IS OF BULK AT MOST 1048576: true; the input reads as it did. -/
def fnExactGenusOfUptoRow : OpenClaim := { program := "ytmijmlngbahaaaadoor", sum := "1e94578e9e9dd5849bab7acb7960ca27ba831b0ef1db454c250e84e1d4e6fa64", func := "loop.example/g01380/laws.FnExactGenusOf", spec := "fnExactGenusOf", unfollowed := true, recurses := true, named := ["loop.example/g01380/impl.matrixS", "loop.example/g01380/impl.identity"], plainKeys := false, apart := false, laid := [("loop.example/g01380/impl.identity", laid_loop_example_g01380_impl_identity), ("loop.example/g01380/impl.matrixS", laid_loop_example_g01380_impl_matrixS)], narrowed := true }
def FnExactGenusOfUptoSaid : Prop := fnExactGenusOfUptoRow.holds Tryd.pinned (OpenSpec.upto fnExactGenusOfSpec)

end Rows
end Go.Proofs.YtmijmlngbahaaaaDoor
