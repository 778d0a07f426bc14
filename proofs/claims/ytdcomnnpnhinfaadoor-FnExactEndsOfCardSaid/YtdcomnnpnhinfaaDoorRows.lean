/-
  NARROWER THAN 'FOR EVERY INPUT', by the rows' own cells (each row's printed sentence says how): FnExactActionOfLevel: laid · FnExactCuspOfFraction: laid · FnExactEndsOf: laid · FnExactTriplesBelow: laid · FnExactMarkovNumbers: laid.
  DERIVED. THE GIVEN ROWS OF THIS SEAT. 5 by the template 'for every input the law returns true; each argument reads behind the call as it read before'; 0 by the template 'total and deterministic' (their statements: YtdcomnnpnhinfaaDoorTotals.lean).
  GIVEN WITH THE SEED: the statements are not yours to turn. If you find one false, say at which input.
  Laid BY PROGRAM, IN A SANDBOX (cutbox-rows.mjs): the forced cells as the released guide's own fill.sh prints them over the translation 5d4b42f84d0c3b06… (all of the seat's roots in one cut). By AI agents, Wed Nov 11 2026. No macro, syntax, notation, axiom, sorry.
-/
import Derived.Test.YtdcomnnpnhinfaaDoorChecked
import GoSem.Claim
import GoSem.ClaimJoined
import GoSem.ClaimMapViews
import Derived.JoinedTies
import Derived.KernelRfl
namespace Go.Proofs.YtdcomnnpnhinfaaDoor
/- THE CELL 'sum', in the pinned program and in every row, IS THE sha256 OF THE DUMP (.gsa) THAT YtdcomnnpnhinfaaDoorProg.lean LOADS. Nothing in Lean hashes anything: it is a label: what it is worth is what the hold of that sum in a sandbox is worth. -/
noncomputable def Tryd.pinned : Pinned := { name := "ytdcomnnpnhinfaadoor", sum := "5d4b42f84d0c3b068a789679f63351752e1eec731099a0d6f40577fa6b4e22fe", checked := Tryd.checked }
namespace Rows
def none {H : Type} : Left H := { results := [], args := [] }

/- WHAT THE LISTED PACKAGE-LEVEL VARIABLES READ AS WHEN THE CALL BEGINS. Each datum BY PROGRAM (the guide's laid-datum.mjs) off the statement by which the dump's own 'gosem.cut.vars' lays the variable. In a bare row this is a premise. The card (YtdcomnnpnhinfaaDoorCards.lean) ties it to the program's text. -/
def laid_loop_example_g01380_impl_matrixS {H : Type} : DataW H := .agg [.lit (.int .i64 0), .lit (.int .i64 (-1)), .lit (.int .i64 1), .lit (.int .i64 0)]
def laid_loop_example_g01380_impl_identity {H : Type} : DataW H := .agg [.lit (.int .i64 1), .lit (.int .i64 0), .lit (.int .i64 0), .lit (.int .i64 1)]
def laid_loop_example_g01380_impl_firstTriple {H : Type} : DataW H := .agg [.lit (.int .i64 1), .lit (.int .i64 1), .lit (.int .i64 1)]

/-- 'laws.FnExactActionOfLevel': WHATEVER THE INPUT: true; the input reads as it did. -/
def fnExactActionOfLevelSpec : ChangeSpec := { name := "fnExactActionOfLevel", vars := ["loop.example/g01380/impl.matrixS"], fn := fun _ => fun
  | [d, g1] => { results := [.lit (.bool true)], args := [d], vars := [g1] }
  | _ => none }
def fnExactActionOfLevelRow : OpenClaim := { program := "ytdcomnnpnhinfaadoor", sum := "5d4b42f84d0c3b068a789679f63351752e1eec731099a0d6f40577fa6b4e22fe", func := "loop.example/g01380/laws.FnExactActionOfLevel", spec := "fnExactActionOfLevel", unfollowed := true, recurses := true, named := ["loop.example/g01380/impl.matrixS"], plainKeys := false, apart := false, laid := [("loop.example/g01380/impl.matrixS", laid_loop_example_g01380_impl_matrixS)] }
def FnExactActionOfLevelSaid : Prop := fnExactActionOfLevelRow.holds Tryd.pinned (OpenSpec.ofChange fnExactActionOfLevelSpec)

/-- ITS FALSE NEIGHBOUR: 'it returns false'. Refute it at one input. -/
def fnExactActionOfLevelWrong : ChangeSpec := { name := "fnExactActionOfLevel", vars := ["loop.example/g01380/impl.matrixS"], fn := fun _ => fun
  | [d, g1] => { results := [.lit (.bool false)], args := [d], vars := [g1] }
  | _ => none }
def FnExactActionOfLevelWrongFalsely : Prop := fnExactActionOfLevelRow.holds Tryd.pinned (OpenSpec.ofChange fnExactActionOfLevelWrong)

/-- 'laws.FnExactCuspOfFraction': WHATEVER THE INPUT: true; the input reads as it did. -/
def fnExactCuspOfFractionSpec : ChangeSpec := { name := "fnExactCuspOfFraction", vars := ["loop.example/g01380/impl.identity"], fn := fun _ => fun
  | [d1, d2, g1] => { results := [.lit (.bool true)], args := [d1, d2], vars := [g1] }
  | _ => none }
def fnExactCuspOfFractionRow : OpenClaim := { program := "ytdcomnnpnhinfaadoor", sum := "5d4b42f84d0c3b068a789679f63351752e1eec731099a0d6f40577fa6b4e22fe", func := "loop.example/g01380/laws.FnExactCuspOfFraction", spec := "fnExactCuspOfFraction", unfollowed := true, recurses := true, named := ["loop.example/g01380/impl.identity"], plainKeys := false, apart := false, laid := [("loop.example/g01380/impl.identity", laid_loop_example_g01380_impl_identity)] }
def FnExactCuspOfFractionSaid : Prop := fnExactCuspOfFractionRow.holds Tryd.pinned (OpenSpec.ofChange fnExactCuspOfFractionSpec)

/-- ITS FALSE NEIGHBOUR: 'it returns false'. Refute it at one input. -/
def fnExactCuspOfFractionWrong : ChangeSpec := { name := "fnExactCuspOfFraction", vars := ["loop.example/g01380/impl.identity"], fn := fun _ => fun
  | [d1, d2, g1] => { results := [.lit (.bool false)], args := [d1, d2], vars := [g1] }
  | _ => none }
def FnExactCuspOfFractionWrongFalsely : Prop := fnExactCuspOfFractionRow.holds Tryd.pinned (OpenSpec.ofChange fnExactCuspOfFractionWrong)

/-- 'laws.FnExactEndsOf': WHATEVER THE INPUT: true; the input reads as it did. -/
def fnExactEndsOfSpec : ChangeSpec := { name := "fnExactEndsOf", vars := ["loop.example/g01380/impl.matrixS"], fn := fun _ => fun
  | [d1, d2, g1] => { results := [.lit (.bool true)], args := [d1, d2], vars := [g1] }
  | _ => none }
def fnExactEndsOfRow : OpenClaim := { program := "ytdcomnnpnhinfaadoor", sum := "5d4b42f84d0c3b068a789679f63351752e1eec731099a0d6f40577fa6b4e22fe", func := "loop.example/g01380/laws.FnExactEndsOf", spec := "fnExactEndsOf", unfollowed := true, recurses := true, named := ["loop.example/g01380/impl.matrixS"], plainKeys := false, apart := false, laid := [("loop.example/g01380/impl.matrixS", laid_loop_example_g01380_impl_matrixS)] }
def FnExactEndsOfSaid : Prop := fnExactEndsOfRow.holds Tryd.pinned (OpenSpec.ofChange fnExactEndsOfSpec)

/-- ITS FALSE NEIGHBOUR: 'it returns false'. Refute it at one input. -/
def fnExactEndsOfWrong : ChangeSpec := { name := "fnExactEndsOf", vars := ["loop.example/g01380/impl.matrixS"], fn := fun _ => fun
  | [d1, d2, g1] => { results := [.lit (.bool false)], args := [d1, d2], vars := [g1] }
  | _ => none }
def FnExactEndsOfWrongFalsely : Prop := fnExactEndsOfRow.holds Tryd.pinned (OpenSpec.ofChange fnExactEndsOfWrong)

/-- 'laws.FnExactTriplesBelow': WHATEVER THE INPUT: true; the input reads as it did. -/
def fnExactTriplesBelowSpec : ChangeSpec := { name := "fnExactTriplesBelow", vars := ["loop.example/g01380/impl.firstTriple"], fn := fun _ => fun
  | [d, g1] => { results := [.lit (.bool true)], args := [d], vars := [g1] }
  | _ => none }
def fnExactTriplesBelowRow : OpenClaim := { program := "ytdcomnnpnhinfaadoor", sum := "5d4b42f84d0c3b068a789679f63351752e1eec731099a0d6f40577fa6b4e22fe", func := "loop.example/g01380/laws.FnExactTriplesBelow", spec := "fnExactTriplesBelow", inPlace := ["slices.overlaps[loop.example/g01380/impl.Triple]"], unfollowed := true, recurses := true, named := ["loop.example/g01380/impl.firstTriple"], plainKeys := false, apart := false, laid := [("loop.example/g01380/impl.firstTriple", laid_loop_example_g01380_impl_firstTriple)] }
def FnExactTriplesBelowSaid : Prop := fnExactTriplesBelowRow.holds Tryd.pinned (OpenSpec.ofChange fnExactTriplesBelowSpec)

/-- ITS FALSE NEIGHBOUR: 'it returns false'. Refute it at one input. -/
def fnExactTriplesBelowWrong : ChangeSpec := { name := "fnExactTriplesBelow", vars := ["loop.example/g01380/impl.firstTriple"], fn := fun _ => fun
  | [d, g1] => { results := [.lit (.bool false)], args := [d], vars := [g1] }
  | _ => none }
def FnExactTriplesBelowWrongFalsely : Prop := fnExactTriplesBelowRow.holds Tryd.pinned (OpenSpec.ofChange fnExactTriplesBelowWrong)

/-- 'laws.FnExactMarkovNumbers': WHATEVER THE INPUT: true; the input reads as it did. -/
def fnExactMarkovNumbersSpec : ChangeSpec := { name := "fnExactMarkovNumbers", vars := ["loop.example/g01380/impl.firstTriple"], fn := fun _ => fun
  | [d, g1] => { results := [.lit (.bool true)], args := [d], vars := [g1] }
  | _ => none }
def fnExactMarkovNumbersRow : OpenClaim := { program := "ytdcomnnpnhinfaadoor", sum := "5d4b42f84d0c3b068a789679f63351752e1eec731099a0d6f40577fa6b4e22fe", func := "loop.example/g01380/laws.FnExactMarkovNumbers", spec := "fnExactMarkovNumbers", inPlace := ["slices.overlaps[loop.example/g01380/impl.Triple]", "slices.overlaps[int64]"], unfollowed := true, recurses := true, named := ["loop.example/g01380/impl.firstTriple"], plainKeys := false, apart := false, laid := [("loop.example/g01380/impl.firstTriple", laid_loop_example_g01380_impl_firstTriple)] }
def FnExactMarkovNumbersSaid : Prop := fnExactMarkovNumbersRow.holds Tryd.pinned (OpenSpec.ofChange fnExactMarkovNumbersSpec)

/-- ITS FALSE NEIGHBOUR: 'it returns false'. Refute it at one input. -/
def fnExactMarkovNumbersWrong : ChangeSpec := { name := "fnExactMarkovNumbers", vars := ["loop.example/g01380/impl.firstTriple"], fn := fun _ => fun
  | [d, g1] => { results := [.lit (.bool false)], args := [d], vars := [g1] }
  | _ => none }
def FnExactMarkovNumbersWrongFalsely : Prop := fnExactMarkovNumbersRow.holds Tryd.pinned (OpenSpec.ofChange fnExactMarkovNumbersWrong)

/- THE SECOND FORM. 'bulk': how many values and letters a reading holds, each counted each time it is reached (what is shared counts as often as it is met; a slice's spare places count too). A statement '..UptoSaid' is the law's where the arguments, and the package variables that the reading takes, are together of bulk at most 1048576: NARROWER than '..Said'. Prove '..Said' where nothing that the law and all that it calls make is longer than what came in: it says more and counts as full. Else prove '..UptoSaid'. A law counts once. -/
mutual
def uptoBulk {H : Type} : DataW H → Nat
  | .lit (.string bytes) => bytes.length + 1
  | .lit _ => 1
  | .nil => 1
  | .ptr d => uptoBulk d + 1
  | .slice elems spare => uptoBulkAll elems + uptoBulkAll spare + 1
  | .agg parts => uptoBulkAll parts + 1
  | .iface _ d => uptoBulk d + 1
  | .map entries => uptoBulkEntries entries + 1
  | .held _ => 1
def uptoBulkAll {H : Type} : List (DataW H) → Nat
  | [] => 0
  | d :: r => uptoBulk d + uptoBulkAll r
def uptoBulkEntries {H : Type} : List (Lit × DataW H) → Nat
  | [] => 0
  | x :: r => uptoBulkEntry x + uptoBulkEntries r
def uptoBulkEntry {H : Type} : Lit × DataW H → Nat
  | (.string bytes, d) => bytes.length + uptoBulk d + 1
  | (_, d) => uptoBulk d + 1
 end
def uptoSmall : (H : Type) → List (DataW H) → Bool := fun _ ds => decide (uptoBulkAll ds ≤ 1048576)
def OpenSpec.upto (s : _root_.Go.ChangeSpec) : _root_.Go.OpenSpec := { _root_.Go.OpenSpec.ofChange s with cond := some uptoSmall }

/-- 'laws.FnExactActionOfLevel', WHERE WHAT IT READS IS OF BULK AT MOST 1048576: true; the input reads as it did. -/
def fnExactActionOfLevelUptoRow : OpenClaim := { program := "ytdcomnnpnhinfaadoor", sum := "5d4b42f84d0c3b068a789679f63351752e1eec731099a0d6f40577fa6b4e22fe", func := "loop.example/g01380/laws.FnExactActionOfLevel", spec := "fnExactActionOfLevel", unfollowed := true, recurses := true, named := ["loop.example/g01380/impl.matrixS"], plainKeys := false, apart := false, laid := [("loop.example/g01380/impl.matrixS", laid_loop_example_g01380_impl_matrixS)], narrowed := true }
def FnExactActionOfLevelUptoSaid : Prop := fnExactActionOfLevelUptoRow.holds Tryd.pinned (OpenSpec.upto fnExactActionOfLevelSpec)

/-- 'laws.FnExactCuspOfFraction', WHERE WHAT IT READS IS OF BULK AT MOST 1048576: true; the input reads as it did. -/
def fnExactCuspOfFractionUptoRow : OpenClaim := { program := "ytdcomnnpnhinfaadoor", sum := "5d4b42f84d0c3b068a789679f63351752e1eec731099a0d6f40577fa6b4e22fe", func := "loop.example/g01380/laws.FnExactCuspOfFraction", spec := "fnExactCuspOfFraction", unfollowed := true, recurses := true, named := ["loop.example/g01380/impl.identity"], plainKeys := false, apart := false, laid := [("loop.example/g01380/impl.identity", laid_loop_example_g01380_impl_identity)], narrowed := true }
def FnExactCuspOfFractionUptoSaid : Prop := fnExactCuspOfFractionUptoRow.holds Tryd.pinned (OpenSpec.upto fnExactCuspOfFractionSpec)

/-- 'laws.FnExactEndsOf', WHERE WHAT IT READS IS OF BULK AT MOST 1048576: true; the input reads as it did. -/
def fnExactEndsOfUptoRow : OpenClaim := { program := "ytdcomnnpnhinfaadoor", sum := "5d4b42f84d0c3b068a789679f63351752e1eec731099a0d6f40577fa6b4e22fe", func := "loop.example/g01380/laws.FnExactEndsOf", spec := "fnExactEndsOf", unfollowed := true, recurses := true, named := ["loop.example/g01380/impl.matrixS"], plainKeys := false, apart := false, laid := [("loop.example/g01380/impl.matrixS", laid_loop_example_g01380_impl_matrixS)], narrowed := true }
def FnExactEndsOfUptoSaid : Prop := fnExactEndsOfUptoRow.holds Tryd.pinned (OpenSpec.upto fnExactEndsOfSpec)

/-- 'laws.FnExactTriplesBelow', WHERE WHAT IT READS IS OF BULK AT MOST 1048576: true; the input reads as it did. -/
def fnExactTriplesBelowUptoRow : OpenClaim := { program := "ytdcomnnpnhinfaadoor", sum := "5d4b42f84d0c3b068a789679f63351752e1eec731099a0d6f40577fa6b4e22fe", func := "loop.example/g01380/laws.FnExactTriplesBelow", spec := "fnExactTriplesBelow", inPlace := ["slices.overlaps[loop.example/g01380/impl.Triple]"], unfollowed := true, recurses := true, named := ["loop.example/g01380/impl.firstTriple"], plainKeys := false, apart := false, laid := [("loop.example/g01380/impl.firstTriple", laid_loop_example_g01380_impl_firstTriple)], narrowed := true }
def FnExactTriplesBelowUptoSaid : Prop := fnExactTriplesBelowUptoRow.holds Tryd.pinned (OpenSpec.upto fnExactTriplesBelowSpec)

/-- 'laws.FnExactMarkovNumbers', WHERE WHAT IT READS IS OF BULK AT MOST 1048576: true; the input reads as it did. -/
def fnExactMarkovNumbersUptoRow : OpenClaim := { program := "ytdcomnnpnhinfaadoor", sum := "5d4b42f84d0c3b068a789679f63351752e1eec731099a0d6f40577fa6b4e22fe", func := "loop.example/g01380/laws.FnExactMarkovNumbers", spec := "fnExactMarkovNumbers", inPlace := ["slices.overlaps[loop.example/g01380/impl.Triple]", "slices.overlaps[int64]"], unfollowed := true, recurses := true, named := ["loop.example/g01380/impl.firstTriple"], plainKeys := false, apart := false, laid := [("loop.example/g01380/impl.firstTriple", laid_loop_example_g01380_impl_firstTriple)], narrowed := true }
def FnExactMarkovNumbersUptoSaid : Prop := fnExactMarkovNumbersUptoRow.holds Tryd.pinned (OpenSpec.upto fnExactMarkovNumbersSpec)

end Rows
end Go.Proofs.YtdcomnnpnhinfaaDoor
