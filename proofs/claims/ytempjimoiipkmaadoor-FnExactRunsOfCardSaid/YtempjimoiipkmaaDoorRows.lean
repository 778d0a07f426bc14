/-
  NARROWER THAN 'FOR EVERY INPUT', by the rows' own cells (each row's printed sentence says how): FnExactRunsOf: laid · FnExactMatrixOfRuns: laid · FnExactMatrixOfChain: laid · FnExactChainOf: laid · FnExactPowerOf: laid · FnExactKeptFraction: laid · FnExactOrderOf: laid · FnExactMatrixOfWord: laid · FnExactMatrixOfFree: laid.
  DERIVED. THE GIVEN ROWS OF THIS SEAT. 9 by the template 'for every input the law returns true; each argument reads behind the call as it read before'; 0 by the template 'total and deterministic' (their statements: YtempjimoiipkmaaDoorTotals.lean).
  GIVEN WITH THE SEED: the statements are not yours to turn. If you find one false, say at which input.
  Laid BY PROGRAM, IN A SANDBOX (cutbox-rows.mjs): the forced cells as the released guide's own fill.sh prints them over the translation 917b25de4ae577a3… (all of the seat's roots in one cut). By AI agents, Wed Nov 11 2026. No macro, syntax, notation, axiom, sorry.
-/
import Derived.Test.YtempjimoiipkmaaDoorChecked
import GoSem.Claim
import GoSem.ClaimJoined
import GoSem.ClaimMapViews
import Derived.JoinedTies
import Derived.KernelRfl
namespace Go.Proofs.YtempjimoiipkmaaDoor
/- THE CELL 'sum', in the pinned program and in every row, IS THE sha256 OF THE DUMP (.gsa) THAT YtempjimoiipkmaaDoorProg.lean LOADS. Nothing in Lean hashes anything: it is a label: what it is worth is what the hold of that sum in a sandbox is worth. -/
noncomputable def Tryd.pinned : Pinned := { name := "ytempjimoiipkmaadoor", sum := "917b25de4ae577a37fd9d9841cda63d63ec08cd51b6c1f5982028cfcc3304ee9", checked := Tryd.checked }
namespace Rows
def none {H : Type} : Left H := { results := [], args := [] }

/- WHAT THE LISTED PACKAGE-LEVEL VARIABLES READ AS WHEN THE CALL BEGINS. Each datum BY PROGRAM (the guide's laid-datum.mjs) off the statement by which the dump's own 'gosem.cut.vars' lays the variable. In a bare row this is a premise. The card (YtempjimoiipkmaaDoorCards.lean) ties it to the program's text. -/
def laid_loop_example_g01380_impl_identity {H : Type} : DataW H := .agg [.lit (.int .i64 1), .lit (.int .i64 0), .lit (.int .i64 0), .lit (.int .i64 1)]
def laid_loop_example_g01380_impl_matrixS {H : Type} : DataW H := .agg [.lit (.int .i64 0), .lit (.int .i64 (-1)), .lit (.int .i64 1), .lit (.int .i64 0)]

/-- 'laws.FnExactRunsOf': WHATEVER THE INPUT: true; the input reads as it did. -/
def fnExactRunsOfSpec : ChangeSpec := { name := "fnExactRunsOf", vars := ["loop.example/g01380/impl.identity"], fn := fun _ => fun
  | [d, g1] => { results := [.lit (.bool true)], args := [d], vars := [g1] }
  | _ => none }
def fnExactRunsOfRow : OpenClaim := { program := "ytempjimoiipkmaadoor", sum := "917b25de4ae577a37fd9d9841cda63d63ec08cd51b6c1f5982028cfcc3304ee9", func := "loop.example/g01380/laws.FnExactRunsOf", spec := "fnExactRunsOf", named := ["loop.example/g01380/impl.identity"], plainKeys := false, apart := false, laid := [("loop.example/g01380/impl.identity", laid_loop_example_g01380_impl_identity)] }
def FnExactRunsOfSaid : Prop := fnExactRunsOfRow.holds Tryd.pinned (OpenSpec.ofChange fnExactRunsOfSpec)

/-- ITS FALSE NEIGHBOUR: 'it returns false'. Refute it at one input. -/
def fnExactRunsOfWrong : ChangeSpec := { name := "fnExactRunsOf", vars := ["loop.example/g01380/impl.identity"], fn := fun _ => fun
  | [d, g1] => { results := [.lit (.bool false)], args := [d], vars := [g1] }
  | _ => none }
def FnExactRunsOfWrongFalsely : Prop := fnExactRunsOfRow.holds Tryd.pinned (OpenSpec.ofChange fnExactRunsOfWrong)

/-- 'laws.FnExactMatrixOfRuns': WHATEVER THE INPUT: true; the input reads as it did. -/
def fnExactMatrixOfRunsSpec : ChangeSpec := { name := "fnExactMatrixOfRuns", vars := ["loop.example/g01380/impl.identity"], fn := fun _ => fun
  | [d, g1] => { results := [.lit (.bool true)], args := [d], vars := [g1] }
  | _ => none }
def fnExactMatrixOfRunsRow : OpenClaim := { program := "ytempjimoiipkmaadoor", sum := "917b25de4ae577a37fd9d9841cda63d63ec08cd51b6c1f5982028cfcc3304ee9", func := "loop.example/g01380/laws.FnExactMatrixOfRuns", spec := "fnExactMatrixOfRuns", named := ["loop.example/g01380/impl.identity"], plainKeys := false, apart := false, laid := [("loop.example/g01380/impl.identity", laid_loop_example_g01380_impl_identity)] }
def FnExactMatrixOfRunsSaid : Prop := fnExactMatrixOfRunsRow.holds Tryd.pinned (OpenSpec.ofChange fnExactMatrixOfRunsSpec)

/-- ITS FALSE NEIGHBOUR: 'it returns false'. Refute it at one input. -/
def fnExactMatrixOfRunsWrong : ChangeSpec := { name := "fnExactMatrixOfRuns", vars := ["loop.example/g01380/impl.identity"], fn := fun _ => fun
  | [d, g1] => { results := [.lit (.bool false)], args := [d], vars := [g1] }
  | _ => none }
def FnExactMatrixOfRunsWrongFalsely : Prop := fnExactMatrixOfRunsRow.holds Tryd.pinned (OpenSpec.ofChange fnExactMatrixOfRunsWrong)

/-- 'laws.FnExactMatrixOfChain': WHATEVER THE INPUT: true; the input reads as it did. -/
def fnExactMatrixOfChainSpec : ChangeSpec := { name := "fnExactMatrixOfChain", vars := ["loop.example/g01380/impl.matrixS", "loop.example/g01380/impl.identity"], fn := fun _ => fun
  | [d1, d2, g1, g2] => { results := [.lit (.bool true)], args := [d1, d2], vars := [g1, g2] }
  | _ => none }
def fnExactMatrixOfChainRow : OpenClaim := { program := "ytempjimoiipkmaadoor", sum := "917b25de4ae577a37fd9d9841cda63d63ec08cd51b6c1f5982028cfcc3304ee9", func := "loop.example/g01380/laws.FnExactMatrixOfChain", spec := "fnExactMatrixOfChain", named := ["loop.example/g01380/impl.matrixS", "loop.example/g01380/impl.identity"], plainKeys := false, apart := false, laid := [("loop.example/g01380/impl.identity", laid_loop_example_g01380_impl_identity), ("loop.example/g01380/impl.matrixS", laid_loop_example_g01380_impl_matrixS)] }
def FnExactMatrixOfChainSaid : Prop := fnExactMatrixOfChainRow.holds Tryd.pinned (OpenSpec.ofChange fnExactMatrixOfChainSpec)

/-- ITS FALSE NEIGHBOUR: 'it returns false'. Refute it at one input. -/
def fnExactMatrixOfChainWrong : ChangeSpec := { name := "fnExactMatrixOfChain", vars := ["loop.example/g01380/impl.matrixS", "loop.example/g01380/impl.identity"], fn := fun _ => fun
  | [d1, d2, g1, g2] => { results := [.lit (.bool false)], args := [d1, d2], vars := [g1, g2] }
  | _ => none }
def FnExactMatrixOfChainWrongFalsely : Prop := fnExactMatrixOfChainRow.holds Tryd.pinned (OpenSpec.ofChange fnExactMatrixOfChainWrong)

/-- 'laws.FnExactChainOf': WHATEVER THE INPUT: true; the input reads as it did. -/
def fnExactChainOfSpec : ChangeSpec := { name := "fnExactChainOf", vars := ["loop.example/g01380/impl.matrixS"], fn := fun _ => fun
  | [d, g1] => { results := [.lit (.bool true)], args := [d], vars := [g1] }
  | _ => none }
def fnExactChainOfRow : OpenClaim := { program := "ytempjimoiipkmaadoor", sum := "917b25de4ae577a37fd9d9841cda63d63ec08cd51b6c1f5982028cfcc3304ee9", func := "loop.example/g01380/laws.FnExactChainOf", spec := "fnExactChainOf", named := ["loop.example/g01380/impl.matrixS"], plainKeys := false, apart := false, laid := [("loop.example/g01380/impl.matrixS", laid_loop_example_g01380_impl_matrixS)] }
def FnExactChainOfSaid : Prop := fnExactChainOfRow.holds Tryd.pinned (OpenSpec.ofChange fnExactChainOfSpec)

/-- ITS FALSE NEIGHBOUR: 'it returns false'. Refute it at one input. -/
def fnExactChainOfWrong : ChangeSpec := { name := "fnExactChainOf", vars := ["loop.example/g01380/impl.matrixS"], fn := fun _ => fun
  | [d, g1] => { results := [.lit (.bool false)], args := [d], vars := [g1] }
  | _ => none }
def FnExactChainOfWrongFalsely : Prop := fnExactChainOfRow.holds Tryd.pinned (OpenSpec.ofChange fnExactChainOfWrong)

/-- 'laws.FnExactPowerOf': WHATEVER THE INPUT: true; the input reads as it did. -/
def fnExactPowerOfSpec : ChangeSpec := { name := "fnExactPowerOf", vars := ["loop.example/g01380/impl.identity"], fn := fun _ => fun
  | [d1, d2, g1] => { results := [.lit (.bool true)], args := [d1, d2], vars := [g1] }
  | _ => none }
def fnExactPowerOfRow : OpenClaim := { program := "ytempjimoiipkmaadoor", sum := "917b25de4ae577a37fd9d9841cda63d63ec08cd51b6c1f5982028cfcc3304ee9", func := "loop.example/g01380/laws.FnExactPowerOf", spec := "fnExactPowerOf", named := ["loop.example/g01380/impl.identity"], plainKeys := false, apart := false, laid := [("loop.example/g01380/impl.identity", laid_loop_example_g01380_impl_identity)] }
def FnExactPowerOfSaid : Prop := fnExactPowerOfRow.holds Tryd.pinned (OpenSpec.ofChange fnExactPowerOfSpec)

/-- ITS FALSE NEIGHBOUR: 'it returns false'. Refute it at one input. -/
def fnExactPowerOfWrong : ChangeSpec := { name := "fnExactPowerOf", vars := ["loop.example/g01380/impl.identity"], fn := fun _ => fun
  | [d1, d2, g1] => { results := [.lit (.bool false)], args := [d1, d2], vars := [g1] }
  | _ => none }
def FnExactPowerOfWrongFalsely : Prop := fnExactPowerOfRow.holds Tryd.pinned (OpenSpec.ofChange fnExactPowerOfWrong)

/-- 'laws.FnExactKeptFraction': WHATEVER THE INPUT: true; the input reads as it did. -/
def fnExactKeptFractionSpec : ChangeSpec := { name := "fnExactKeptFraction", vars := ["loop.example/g01380/impl.identity"], fn := fun _ => fun
  | [d, g1] => { results := [.lit (.bool true)], args := [d], vars := [g1] }
  | _ => none }
def fnExactKeptFractionRow : OpenClaim := { program := "ytempjimoiipkmaadoor", sum := "917b25de4ae577a37fd9d9841cda63d63ec08cd51b6c1f5982028cfcc3304ee9", func := "loop.example/g01380/laws.FnExactKeptFraction", spec := "fnExactKeptFraction", named := ["loop.example/g01380/impl.identity"], plainKeys := false, apart := false, laid := [("loop.example/g01380/impl.identity", laid_loop_example_g01380_impl_identity)] }
def FnExactKeptFractionSaid : Prop := fnExactKeptFractionRow.holds Tryd.pinned (OpenSpec.ofChange fnExactKeptFractionSpec)

/-- ITS FALSE NEIGHBOUR: 'it returns false'. Refute it at one input. -/
def fnExactKeptFractionWrong : ChangeSpec := { name := "fnExactKeptFraction", vars := ["loop.example/g01380/impl.identity"], fn := fun _ => fun
  | [d, g1] => { results := [.lit (.bool false)], args := [d], vars := [g1] }
  | _ => none }
def FnExactKeptFractionWrongFalsely : Prop := fnExactKeptFractionRow.holds Tryd.pinned (OpenSpec.ofChange fnExactKeptFractionWrong)

/-- 'laws.FnExactOrderOf': WHATEVER THE INPUT: true; the input reads as it did. -/
def fnExactOrderOfSpec : ChangeSpec := { name := "fnExactOrderOf", vars := ["loop.example/g01380/impl.identity"], fn := fun _ => fun
  | [d, g1] => { results := [.lit (.bool true)], args := [d], vars := [g1] }
  | _ => none }
def fnExactOrderOfRow : OpenClaim := { program := "ytempjimoiipkmaadoor", sum := "917b25de4ae577a37fd9d9841cda63d63ec08cd51b6c1f5982028cfcc3304ee9", func := "loop.example/g01380/laws.FnExactOrderOf", spec := "fnExactOrderOf", named := ["loop.example/g01380/impl.identity"], plainKeys := false, apart := false, laid := [("loop.example/g01380/impl.identity", laid_loop_example_g01380_impl_identity)] }
def FnExactOrderOfSaid : Prop := fnExactOrderOfRow.holds Tryd.pinned (OpenSpec.ofChange fnExactOrderOfSpec)

/-- ITS FALSE NEIGHBOUR: 'it returns false'. Refute it at one input. -/
def fnExactOrderOfWrong : ChangeSpec := { name := "fnExactOrderOf", vars := ["loop.example/g01380/impl.identity"], fn := fun _ => fun
  | [d, g1] => { results := [.lit (.bool false)], args := [d], vars := [g1] }
  | _ => none }
def FnExactOrderOfWrongFalsely : Prop := fnExactOrderOfRow.holds Tryd.pinned (OpenSpec.ofChange fnExactOrderOfWrong)

/-- 'laws.FnExactMatrixOfWord': WHATEVER THE INPUT: true; the input reads as it did. -/
def fnExactMatrixOfWordSpec : ChangeSpec := { name := "fnExactMatrixOfWord", vars := ["loop.example/g01380/impl.matrixS", "loop.example/g01380/impl.identity"], fn := fun _ => fun
  | [d, g1, g2] => { results := [.lit (.bool true)], args := [d], vars := [g1, g2] }
  | _ => none }
def fnExactMatrixOfWordRow : OpenClaim := { program := "ytempjimoiipkmaadoor", sum := "917b25de4ae577a37fd9d9841cda63d63ec08cd51b6c1f5982028cfcc3304ee9", func := "loop.example/g01380/laws.FnExactMatrixOfWord", spec := "fnExactMatrixOfWord", named := ["loop.example/g01380/impl.matrixS", "loop.example/g01380/impl.identity"], plainKeys := false, apart := false, laid := [("loop.example/g01380/impl.identity", laid_loop_example_g01380_impl_identity), ("loop.example/g01380/impl.matrixS", laid_loop_example_g01380_impl_matrixS)] }
def FnExactMatrixOfWordSaid : Prop := fnExactMatrixOfWordRow.holds Tryd.pinned (OpenSpec.ofChange fnExactMatrixOfWordSpec)

/-- ITS FALSE NEIGHBOUR: 'it returns false'. Refute it at one input. -/
def fnExactMatrixOfWordWrong : ChangeSpec := { name := "fnExactMatrixOfWord", vars := ["loop.example/g01380/impl.matrixS", "loop.example/g01380/impl.identity"], fn := fun _ => fun
  | [d, g1, g2] => { results := [.lit (.bool false)], args := [d], vars := [g1, g2] }
  | _ => none }
def FnExactMatrixOfWordWrongFalsely : Prop := fnExactMatrixOfWordRow.holds Tryd.pinned (OpenSpec.ofChange fnExactMatrixOfWordWrong)

/-- 'laws.FnExactMatrixOfFree': WHATEVER THE INPUT: true; the input reads as it did. -/
def fnExactMatrixOfFreeSpec : ChangeSpec := { name := "fnExactMatrixOfFree", vars := ["loop.example/g01380/impl.matrixS", "loop.example/g01380/impl.identity"], fn := fun _ => fun
  | [d, g1, g2] => { results := [.lit (.bool true)], args := [d], vars := [g1, g2] }
  | _ => none }
def fnExactMatrixOfFreeRow : OpenClaim := { program := "ytempjimoiipkmaadoor", sum := "917b25de4ae577a37fd9d9841cda63d63ec08cd51b6c1f5982028cfcc3304ee9", func := "loop.example/g01380/laws.FnExactMatrixOfFree", spec := "fnExactMatrixOfFree", named := ["loop.example/g01380/impl.matrixS", "loop.example/g01380/impl.identity"], plainKeys := false, apart := false, laid := [("loop.example/g01380/impl.identity", laid_loop_example_g01380_impl_identity), ("loop.example/g01380/impl.matrixS", laid_loop_example_g01380_impl_matrixS)] }
def FnExactMatrixOfFreeSaid : Prop := fnExactMatrixOfFreeRow.holds Tryd.pinned (OpenSpec.ofChange fnExactMatrixOfFreeSpec)

/-- ITS FALSE NEIGHBOUR: 'it returns false'. Refute it at one input. -/
def fnExactMatrixOfFreeWrong : ChangeSpec := { name := "fnExactMatrixOfFree", vars := ["loop.example/g01380/impl.matrixS", "loop.example/g01380/impl.identity"], fn := fun _ => fun
  | [d, g1, g2] => { results := [.lit (.bool false)], args := [d], vars := [g1, g2] }
  | _ => none }
def FnExactMatrixOfFreeWrongFalsely : Prop := fnExactMatrixOfFreeRow.holds Tryd.pinned (OpenSpec.ofChange fnExactMatrixOfFreeWrong)

/- THE SECOND FORM. 'bulk': how many values and letters a reading holds, each counted each time it is reached (what is shared counts as often as it is met; a slice's spare places count too). A statement '..UptoSaid' is the law's where the arguments, and the package variables that the reading takes, are together of bulk at most 1048576: NARROWER than '..Said'. Prove '..Said' where nothing that the law and all that it calls make is longer than what came in: it says more and counts as full. Else prove '..UptoSaid'. A law counts once. -/
mutual
def uptoBulk {H : Type} : DataW H → Nat
  | .lit (.string bytes) => bytes.length + 1
  | .lit _ => 1
  | .nil => 1
  | .ptr d => uptoBulk d + 1
  | .slice elems spare => uptoBulkAll elems + uptoBulkAll spare + 1
  | .agg parts => uptoBulkAll parts + 1
  | .iface _ d => uptoBulk d + 1
  | .map entries => uptoBulkEntries entries + 1
  | .held _ => 1
def uptoBulkAll {H : Type} : List (DataW H) → Nat
  | [] => 0
  | d :: r => uptoBulk d + uptoBulkAll r
def uptoBulkEntries {H : Type} : List (Lit × DataW H) → Nat
  | [] => 0
  | x :: r => uptoBulkEntry x + uptoBulkEntries r
def uptoBulkEntry {H : Type} : Lit × DataW H → Nat
  | (.string bytes, d) => bytes.length + uptoBulk d + 1
  | (_, d) => uptoBulk d + 1
 end
def uptoSmall : (H : Type) → List (DataW H) → Bool := fun _ ds => decide (uptoBulkAll ds ≤ 1048576)
def OpenSpec.upto (s : _root_.Go.ChangeSpec) : _root_.Go.OpenSpec := { _root_.Go.OpenSpec.ofChange s with cond := some uptoSmall }

/-- 'laws.FnExactRunsOf', WHERE WHAT IT READS IS OF BULK AT MOST 1048576: true; the input reads as it did. -/
def fnExactRunsOfUptoRow : OpenClaim := { program := "ytempjimoiipkmaadoor", sum := "917b25de4ae577a37fd9d9841cda63d63ec08cd51b6c1f5982028cfcc3304ee9", func := "loop.example/g01380/laws.FnExactRunsOf", spec := "fnExactRunsOf", named := ["loop.example/g01380/impl.identity"], plainKeys := false, apart := false, laid := [("loop.example/g01380/impl.identity", laid_loop_example_g01380_impl_identity)], narrowed := true }
def FnExactRunsOfUptoSaid : Prop := fnExactRunsOfUptoRow.holds Tryd.pinned (OpenSpec.upto fnExactRunsOfSpec)

/-- 'laws.FnExactMatrixOfRuns', WHERE WHAT IT READS IS OF BULK AT MOST 1048576: true; the input reads as it did. -/
def fnExactMatrixOfRunsUptoRow : OpenClaim := { program := "ytempjimoiipkmaadoor", sum := "917b25de4ae577a37fd9d9841cda63d63ec08cd51b6c1f5982028cfcc3304ee9", func := "loop.example/g01380/laws.FnExactMatrixOfRuns", spec := "fnExactMatrixOfRuns", named := ["loop.example/g01380/impl.identity"], plainKeys := false, apart := false, laid := [("loop.example/g01380/impl.identity", laid_loop_example_g01380_impl_identity)], narrowed := true }
def FnExactMatrixOfRunsUptoSaid : Prop := fnExactMatrixOfRunsUptoRow.holds Tryd.pinned (OpenSpec.upto fnExactMatrixOfRunsSpec)

/-- 'laws.FnExactMatrixOfChain', WHERE WHAT IT READS IS OF BULK AT MOST 1048576: true; the input reads as it did. -/
def fnExactMatrixOfChainUptoRow : OpenClaim := { program := "ytempjimoiipkmaadoor", sum := "917b25de4ae577a37fd9d9841cda63d63ec08cd51b6c1f5982028cfcc3304ee9", func := "loop.example/g01380/laws.FnExactMatrixOfChain", spec := "fnExactMatrixOfChain", named := ["loop.example/g01380/impl.matrixS", "loop.example/g01380/impl.identity"], plainKeys := false, apart := false, laid := [("loop.example/g01380/impl.identity", laid_loop_example_g01380_impl_identity), ("loop.example/g01380/impl.matrixS", laid_loop_example_g01380_impl_matrixS)], narrowed := true }
def FnExactMatrixOfChainUptoSaid : Prop := fnExactMatrixOfChainUptoRow.holds Tryd.pinned (OpenSpec.upto fnExactMatrixOfChainSpec)

/-- 'laws.FnExactChainOf', WHERE WHAT IT READS IS OF BULK AT MOST 1048576: true; the input reads as it did. -/
def fnExactChainOfUptoRow : OpenClaim := { program := "ytempjimoiipkmaadoor", sum := "917b25de4ae577a37fd9d9841cda63d63ec08cd51b6c1f5982028cfcc3304ee9", func := "loop.example/g01380/laws.FnExactChainOf", spec := "fnExactChainOf", named := ["loop.example/g01380/impl.matrixS"], plainKeys := false, apart := false, laid := [("loop.example/g01380/impl.matrixS", laid_loop_example_g01380_impl_matrixS)], narrowed := true }
def FnExactChainOfUptoSaid : Prop := fnExactChainOfUptoRow.holds Tryd.pinned (OpenSpec.upto fnExactChainOfSpec)

/-- 'laws.FnExactPowerOf', WHERE WHAT IT READS IS OF BULK AT MOST 1048576: true; the input reads as it did. -/
def fnExactPowerOfUptoRow : OpenClaim := { program := "ytempjimoiipkmaadoor", sum := "917b25de4ae577a37fd9d9841cda63d63ec08cd51b6c1f5982028cfcc3304ee9", func := "loop.example/g01380/laws.FnExactPowerOf", spec := "fnExactPowerOf", named := ["loop.example/g01380/impl.identity"], plainKeys := false, apart := false, laid := [("loop.example/g01380/impl.identity", laid_loop_example_g01380_impl_identity)], narrowed := true }
def FnExactPowerOfUptoSaid : Prop := fnExactPowerOfUptoRow.holds Tryd.pinned (OpenSpec.upto fnExactPowerOfSpec)

/-- 'laws.FnExactKeptFraction', WHERE WHAT IT READS IS OF BULK AT MOST 1048576: true; the input reads as it did. -/
def fnExactKeptFractionUptoRow : OpenClaim := { program := "ytempjimoiipkmaadoor", sum := "917b25de4ae577a37fd9d9841cda63d63ec08cd51b6c1f5982028cfcc3304ee9", func := "loop.example/g01380/laws.FnExactKeptFraction", spec := "fnExactKeptFraction", named := ["loop.example/g01380/impl.identity"], plainKeys := false, apart := false, laid := [("loop.example/g01380/impl.identity", laid_loop_example_g01380_impl_identity)], narrowed := true }
def FnExactKeptFractionUptoSaid : Prop := fnExactKeptFractionUptoRow.holds Tryd.pinned (OpenSpec.upto fnExactKeptFractionSpec)

/-- 'laws.FnExactOrderOf', WHERE WHAT IT READS IS OF BULK AT MOST 1048576: true; the input reads as it did. -/
def fnExactOrderOfUptoRow : OpenClaim := { program := "ytempjimoiipkmaadoor", sum := "917b25de4ae577a37fd9d9841cda63d63ec08cd51b6c1f5982028cfcc3304ee9", func := "loop.example/g01380/laws.FnExactOrderOf", spec := "fnExactOrderOf", named := ["loop.example/g01380/impl.identity"], plainKeys := false, apart := false, laid := [("loop.example/g01380/impl.identity", laid_loop_example_g01380_impl_identity)], narrowed := true }
def FnExactOrderOfUptoSaid : Prop := fnExactOrderOfUptoRow.holds Tryd.pinned (OpenSpec.upto fnExactOrderOfSpec)

/-- 'laws.FnExactMatrixOfWord', WHERE WHAT IT READS IS OF BULK AT MOST 1048576: true; the input reads as it did. -/
def fnExactMatrixOfWordUptoRow : OpenClaim := { program := "ytempjimoiipkmaadoor", sum := "917b25de4ae577a37fd9d9841cda63d63ec08cd51b6c1f5982028cfcc3304ee9", func := "loop.example/g01380/laws.FnExactMatrixOfWord", spec := "fnExactMatrixOfWord", named := ["loop.example/g01380/impl.matrixS", "loop.example/g01380/impl.identity"], plainKeys := false, apart := false, laid := [("loop.example/g01380/impl.identity", laid_loop_example_g01380_impl_identity), ("loop.example/g01380/impl.matrixS", laid_loop_example_g01380_impl_matrixS)], narrowed := true }
def FnExactMatrixOfWordUptoSaid : Prop := fnExactMatrixOfWordUptoRow.holds Tryd.pinned (OpenSpec.upto fnExactMatrixOfWordSpec)

/-- 'laws.FnExactMatrixOfFree', WHERE WHAT IT READS IS OF BULK AT MOST 1048576: true; the input reads as it did. -/
def fnExactMatrixOfFreeUptoRow : OpenClaim := { program := "ytempjimoiipkmaadoor", sum := "917b25de4ae577a37fd9d9841cda63d63ec08cd51b6c1f5982028cfcc3304ee9", func := "loop.example/g01380/laws.FnExactMatrixOfFree", spec := "fnExactMatrixOfFree", named := ["loop.example/g01380/impl.matrixS", "loop.example/g01380/impl.identity"], plainKeys := false, apart := false, laid := [("loop.example/g01380/impl.identity", laid_loop_example_g01380_impl_identity), ("loop.example/g01380/impl.matrixS", laid_loop_example_g01380_impl_matrixS)], narrowed := true }
def FnExactMatrixOfFreeUptoSaid : Prop := fnExactMatrixOfFreeUptoRow.holds Tryd.pinned (OpenSpec.upto fnExactMatrixOfFreeSpec)

end Rows
end Go.Proofs.YtempjimoiipkmaaDoor
