/-
  NARROWER THAN 'FOR EVERY INPUT', by the rows' own cells (each row's printed sentence says how): FnExactRelationsOf: laid · FnExactRankOf: laid · FnExactDimensionOf: laid · FnExactGoes: ifaces, laid · FnExactAreEqualMixes: ifaces, laid · FnExactEndsOf: laid · FnExactCuspOfFraction: laid.
  DERIVED. THE GIVEN ROWS OF THIS SEAT. 7 by the template 'for every input the law returns true; each argument reads behind the call as it read before'; 0 by the template 'total and deterministic' (their statements: YtejghidllochoaaDoorTotals.lean).
  GIVEN WITH THE SEED: the statements are not yours to turn. If you find one false, say at which input.
  Laid BY PROGRAM, IN A SANDBOX (cutbox-rows.mjs): the forced cells as the released guide's own fill.sh prints them over the translation a4582539c68dff50… (all of the seat's roots in one cut). By AI agents, Wed Nov 11 2026. No macro, syntax, notation, axiom, sorry.
-/
import Derived.Test.YtejghidllochoaaDoorChecked
import GoSem.Claim
import GoSem.ClaimJoined
import GoSem.ClaimMapViews
import Derived.JoinedTies
import Derived.KernelRfl
namespace Go.Proofs.YtejghidllochoaaDoor
/- THE CELL 'sum', in the pinned program and in every row, IS THE sha256 OF THE DUMP (.gsa) THAT YtejghidllochoaaDoorProg.lean LOADS. Nothing in Lean hashes anything: it is a label: what it is worth is what the hold of that sum in a sandbox is worth. -/
noncomputable def Tryd.pinned : Pinned := { name := "ytejghidllochoaadoor", sum := "a4582539c68dff50b21601c2ad20c9cabafe8b8311ae9367c2199b93afab9f9f", checked := Tryd.checked }
namespace Rows
def none {H : Type} : Left H := { results := [], args := [] }

/- WHAT THE LISTED PACKAGE-LEVEL VARIABLES READ AS WHEN THE CALL BEGINS. Each datum BY PROGRAM (the guide's laid-datum.mjs) off the statement by which the dump's own 'gosem.cut.vars' lays the variable. In a bare row this is a premise. The card (YtejghidllochoaaDoorCards.lean) ties it to the program's text. -/
def laid_loop_example_g01380_impl_identity {H : Type} : DataW H := .agg [.lit (.int .i64 1), .lit (.int .i64 0), .lit (.int .i64 0), .lit (.int .i64 1)]
def laid_loop_example_g01380_impl_matrixS {H : Type} : DataW H := .agg [.lit (.int .i64 0), .lit (.int .i64 (-1)), .lit (.int .i64 1), .lit (.int .i64 0)]
def laid_loop_example_g01380_impl_errLeft {H : Type} : DataW H := .iface "*errors.errorString" (.ptr (.agg [.lit (.string [97, 32, 110, 117, 109, 98, 101, 114, 32, 105, 115, 32, 108, 101, 102, 116, 32, 116, 104, 97, 116, 32, 110, 111, 32, 114, 111, 119, 32, 116, 97, 107, 101, 115, 32, 111, 102, 102])]))

/-- 'laws.FnExactRelationsOf': WHATEVER THE INPUT: true; the input reads as it did. -/
def fnExactRelationsOfSpec : ChangeSpec := { name := "fnExactRelationsOf", vars := ["loop.example/g01380/impl.matrixS", "loop.example/g01380/impl.identity"], fn := fun _ => fun
  | [d, g1, g2] => { results := [.lit (.bool true)], args := [d], vars := [g1, g2] }
  | _ => none }
def fnExactRelationsOfRow : OpenClaim := { program := "ytejghidllochoaadoor", sum := "a4582539c68dff50b21601c2ad20c9cabafe8b8311ae9367c2199b93afab9f9f", func := "loop.example/g01380/laws.FnExactRelationsOf", spec := "fnExactRelationsOf", unfollowed := true, recurses := true, named := ["loop.example/g01380/impl.matrixS", "loop.example/g01380/impl.identity"], plainKeys := false, apart := false, laid := [("loop.example/g01380/impl.identity", laid_loop_example_g01380_impl_identity), ("loop.example/g01380/impl.matrixS", laid_loop_example_g01380_impl_matrixS)] }
def FnExactRelationsOfSaid : Prop := fnExactRelationsOfRow.holds Tryd.pinned (OpenSpec.ofChange fnExactRelationsOfSpec)

/-- ITS FALSE NEIGHBOUR: 'it returns false'. Refute it at one input. -/
def fnExactRelationsOfWrong : ChangeSpec := { name := "fnExactRelationsOf", vars := ["loop.example/g01380/impl.matrixS", "loop.example/g01380/impl.identity"], fn := fun _ => fun
  | [d, g1, g2] => { results := [.lit (.bool false)], args := [d], vars := [g1, g2] }
  | _ => none }
def FnExactRelationsOfWrongFalsely : Prop := fnExactRelationsOfRow.holds Tryd.pinned (OpenSpec.ofChange fnExactRelationsOfWrong)

/-- 'laws.FnExactRankOf': WHATEVER THE INPUT: true; the input reads as it did. -/
def fnExactRankOfSpec : ChangeSpec := { name := "fnExactRankOf", vars := ["loop.example/g01380/impl.matrixS", "loop.example/g01380/impl.identity"], fn := fun _ => fun
  | [d1, d2, g1, g2] => { results := [.lit (.bool true)], args := [d1, d2], vars := [g1, g2] }
  | _ => none }
def fnExactRankOfRow : OpenClaim := { program := "ytejghidllochoaadoor", sum := "a4582539c68dff50b21601c2ad20c9cabafe8b8311ae9367c2199b93afab9f9f", func := "loop.example/g01380/laws.FnExactRankOf", spec := "fnExactRankOf", unfollowed := true, recurses := true, named := ["loop.example/g01380/impl.matrixS", "loop.example/g01380/impl.identity"], plainKeys := false, apart := false, laid := [("loop.example/g01380/impl.identity", laid_loop_example_g01380_impl_identity), ("loop.example/g01380/impl.matrixS", laid_loop_example_g01380_impl_matrixS)] }
def FnExactRankOfSaid : Prop := fnExactRankOfRow.holds Tryd.pinned (OpenSpec.ofChange fnExactRankOfSpec)

/-- ITS FALSE NEIGHBOUR: 'it returns false'. Refute it at one input. -/
def fnExactRankOfWrong : ChangeSpec := { name := "fnExactRankOf", vars := ["loop.example/g01380/impl.matrixS", "loop.example/g01380/impl.identity"], fn := fun _ => fun
  | [d1, d2, g1, g2] => { results := [.lit (.bool false)], args := [d1, d2], vars := [g1, g2] }
  | _ => none }
def FnExactRankOfWrongFalsely : Prop := fnExactRankOfRow.holds Tryd.pinned (OpenSpec.ofChange fnExactRankOfWrong)

/-- 'laws.FnExactDimensionOf': WHATEVER THE INPUT: true; the input reads as it did. -/
def fnExactDimensionOfSpec : ChangeSpec := { name := "fnExactDimensionOf", vars := ["loop.example/g01380/impl.matrixS", "loop.example/g01380/impl.identity"], fn := fun _ => fun
  | [d1, d2, g1, g2] => { results := [.lit (.bool true)], args := [d1, d2], vars := [g1, g2] }
  | _ => none }
def fnExactDimensionOfRow : OpenClaim := { program := "ytejghidllochoaadoor", sum := "a4582539c68dff50b21601c2ad20c9cabafe8b8311ae9367c2199b93afab9f9f", func := "loop.example/g01380/laws.FnExactDimensionOf", spec := "fnExactDimensionOf", unfollowed := true, recurses := true, named := ["loop.example/g01380/impl.matrixS", "loop.example/g01380/impl.identity"], plainKeys := false, apart := false, laid := [("loop.example/g01380/impl.identity", laid_loop_example_g01380_impl_identity), ("loop.example/g01380/impl.matrixS", laid_loop_example_g01380_impl_matrixS)] }
def FnExactDimensionOfSaid : Prop := fnExactDimensionOfRow.holds Tryd.pinned (OpenSpec.ofChange fnExactDimensionOfSpec)

/-- ITS FALSE NEIGHBOUR: 'it returns false'. Refute it at one input. -/
def fnExactDimensionOfWrong : ChangeSpec := { name := "fnExactDimensionOf", vars := ["loop.example/g01380/impl.matrixS", "loop.example/g01380/impl.identity"], fn := fun _ => fun
  | [d1, d2, g1, g2] => { results := [.lit (.bool false)], args := [d1, d2], vars := [g1, g2] }
  | _ => none }
def FnExactDimensionOfWrongFalsely : Prop := fnExactDimensionOfRow.holds Tryd.pinned (OpenSpec.ofChange fnExactDimensionOfWrong)

/-- 'laws.FnExactGoes': WHATEVER THE INPUT: true; the input reads as it did. -/
def fnExactGoesSpec : ChangeSpec := { name := "fnExactGoes", vars := ["loop.example/g01380/impl.matrixS", "loop.example/g01380/impl.identity", "loop.example/g01380/impl.errLeft"], fn := fun _ => fun
  | [d1, d2, d3, g1, g2, g3] => { results := [.lit (.bool true)], args := [d1, d2, d3], vars := [g1, g2, g3] }
  | _ => none }
def fnExactGoesRow : OpenClaim := { program := "ytejghidllochoaadoor", sum := "a4582539c68dff50b21601c2ad20c9cabafe8b8311ae9367c2199b93afab9f9f", func := "loop.example/g01380/laws.FnExactGoes", spec := "fnExactGoes", unfollowed := true, recurses := true, named := ["loop.example/g01380/impl.matrixS", "loop.example/g01380/impl.identity", "loop.example/g01380/impl.errLeft"], ifaces := true, plainKeys := false, apart := false, laid := [("loop.example/g01380/impl.identity", laid_loop_example_g01380_impl_identity), ("loop.example/g01380/impl.matrixS", laid_loop_example_g01380_impl_matrixS), ("loop.example/g01380/impl.errLeft", laid_loop_example_g01380_impl_errLeft)] }
def FnExactGoesSaid : Prop := fnExactGoesRow.holds Tryd.pinned (OpenSpec.ofChange fnExactGoesSpec)

/-- ITS FALSE NEIGHBOUR: 'it returns false'. Refute it at one input. -/
def fnExactGoesWrong : ChangeSpec := { name := "fnExactGoes", vars := ["loop.example/g01380/impl.matrixS", "loop.example/g01380/impl.identity", "loop.example/g01380/impl.errLeft"], fn := fun _ => fun
  | [d1, d2, d3, g1, g2, g3] => { results := [.lit (.bool false)], args := [d1, d2, d3], vars := [g1, g2, g3] }
  | _ => none }
def FnExactGoesWrongFalsely : Prop := fnExactGoesRow.holds Tryd.pinned (OpenSpec.ofChange fnExactGoesWrong)

/-- 'laws.FnExactAreEqualMixes': WHATEVER THE INPUT: true; the input reads as it did. -/
def fnExactAreEqualMixesSpec : ChangeSpec := { name := "fnExactAreEqualMixes", vars := ["loop.example/g01380/impl.matrixS", "loop.example/g01380/impl.identity", "loop.example/g01380/impl.errLeft"], fn := fun _ => fun
  | [d1, d2, d3, d4, g1, g2, g3] => { results := [.lit (.bool true)], args := [d1, d2, d3, d4], vars := [g1, g2, g3] }
  | _ => none }
def fnExactAreEqualMixesRow : OpenClaim := { program := "ytejghidllochoaadoor", sum := "a4582539c68dff50b21601c2ad20c9cabafe8b8311ae9367c2199b93afab9f9f", func := "loop.example/g01380/laws.FnExactAreEqualMixes", spec := "fnExactAreEqualMixes", unfollowed := true, recurses := true, named := ["loop.example/g01380/impl.matrixS", "loop.example/g01380/impl.identity", "loop.example/g01380/impl.errLeft"], ifaces := true, plainKeys := false, apart := false, laid := [("loop.example/g01380/impl.identity", laid_loop_example_g01380_impl_identity), ("loop.example/g01380/impl.matrixS", laid_loop_example_g01380_impl_matrixS), ("loop.example/g01380/impl.errLeft", laid_loop_example_g01380_impl_errLeft)] }
def FnExactAreEqualMixesSaid : Prop := fnExactAreEqualMixesRow.holds Tryd.pinned (OpenSpec.ofChange fnExactAreEqualMixesSpec)

/-- ITS FALSE NEIGHBOUR: 'it returns false'. Refute it at one input. -/
def fnExactAreEqualMixesWrong : ChangeSpec := { name := "fnExactAreEqualMixes", vars := ["loop.example/g01380/impl.matrixS", "loop.example/g01380/impl.identity", "loop.example/g01380/impl.errLeft"], fn := fun _ => fun
  | [d1, d2, d3, d4, g1, g2, g3] => { results := [.lit (.bool false)], args := [d1, d2, d3, d4], vars := [g1, g2, g3] }
  | _ => none }
def FnExactAreEqualMixesWrongFalsely : Prop := fnExactAreEqualMixesRow.holds Tryd.pinned (OpenSpec.ofChange fnExactAreEqualMixesWrong)

/-- 'laws.FnExactEndsOf': WHATEVER THE INPUT: true; the input reads as it did. -/
def fnExactEndsOfSpec : ChangeSpec := { name := "fnExactEndsOf", vars := ["loop.example/g01380/impl.matrixS"], fn := fun _ => fun
  | [d1, d2, g1] => { results := [.lit (.bool true)], args := [d1, d2], vars := [g1] }
  | _ => none }
def fnExactEndsOfRow : OpenClaim := { program := "ytejghidllochoaadoor", sum := "a4582539c68dff50b21601c2ad20c9cabafe8b8311ae9367c2199b93afab9f9f", func := "loop.example/g01380/laws.FnExactEndsOf", spec := "fnExactEndsOf", unfollowed := true, recurses := true, named := ["loop.example/g01380/impl.matrixS"], plainKeys := false, apart := false, laid := [("loop.example/g01380/impl.matrixS", laid_loop_example_g01380_impl_matrixS)] }
def FnExactEndsOfSaid : Prop := fnExactEndsOfRow.holds Tryd.pinned (OpenSpec.ofChange fnExactEndsOfSpec)

/-- ITS FALSE NEIGHBOUR: 'it returns false'. Refute it at one input. -/
def fnExactEndsOfWrong : ChangeSpec := { name := "fnExactEndsOf", vars := ["loop.example/g01380/impl.matrixS"], fn := fun _ => fun
  | [d1, d2, g1] => { results := [.lit (.bool false)], args := [d1, d2], vars := [g1] }
  | _ => none }
def FnExactEndsOfWrongFalsely : Prop := fnExactEndsOfRow.holds Tryd.pinned (OpenSpec.ofChange fnExactEndsOfWrong)

/-- 'laws.FnExactCuspOfFraction': WHATEVER THE INPUT: true; the input reads as it did. -/
def fnExactCuspOfFractionSpec : ChangeSpec := { name := "fnExactCuspOfFraction", vars := ["loop.example/g01380/impl.identity"], fn := fun _ => fun
  | [d1, d2, g1] => { results := [.lit (.bool true)], args := [d1, d2], vars := [g1] }
  | _ => none }
def fnExactCuspOfFractionRow : OpenClaim := { program := "ytejghidllochoaadoor", sum := "a4582539c68dff50b21601c2ad20c9cabafe8b8311ae9367c2199b93afab9f9f", func := "loop.example/g01380/laws.FnExactCuspOfFraction", spec := "fnExactCuspOfFraction", unfollowed := true, recurses := true, named := ["loop.example/g01380/impl.identity"], plainKeys := false, apart := false, laid := [("loop.example/g01380/impl.identity", laid_loop_example_g01380_impl_identity)] }
def FnExactCuspOfFractionSaid : Prop := fnExactCuspOfFractionRow.holds Tryd.pinned (OpenSpec.ofChange fnExactCuspOfFractionSpec)

/-- ITS FALSE NEIGHBOUR: 'it returns false'. Refute it at one input. -/
def fnExactCuspOfFractionWrong : ChangeSpec := { name := "fnExactCuspOfFraction", vars := ["loop.example/g01380/impl.identity"], fn := fun _ => fun
  | [d1, d2, g1] => { results := [.lit (.bool false)], args := [d1, d2], vars := [g1] }
  | _ => none }
def FnExactCuspOfFractionWrongFalsely : Prop := fnExactCuspOfFractionRow.holds Tryd.pinned (OpenSpec.ofChange fnExactCuspOfFractionWrong)

/- THE SECOND FORM. 'bulk': how many values and letters a reading holds, each counted each time it is reached (what is shared counts as often as it is met; a slice's spare places count too). A statement '..UptoSaid' is the law's where the arguments, and the package variables that the reading takes, are together of bulk at most 1048576: NARROWER than '..Said'. Prove '..Said' where nothing that the law and all that it calls make is longer than what came in: it says more and counts as full. Else prove '..UptoSaid'. A law counts once. -/
mutual
def uptoBulk {H : Type} : DataW H → Nat
  | .lit (.string bytes) => bytes.length + 1
  | .lit _ => 1
  | .nil => 1
  | .ptr d => uptoBulk d + 1
  | .slice elems spare => uptoBulkAll elems + uptoBulkAll spare + 1
  | .agg parts => uptoBulkAll parts + 1
  | .iface _ d => uptoBulk d + 1
  | .map entries => uptoBulkEntries entries + 1
  | .held _ => 1
def uptoBulkAll {H : Type} : List (DataW H) → Nat
  | [] => 0
  | d :: r => uptoBulk d + uptoBulkAll r
def uptoBulkEntries {H : Type} : List (Lit × DataW H) → Nat
  | [] => 0
  | x :: r => uptoBulkEntry x + uptoBulkEntries r
def uptoBulkEntry {H : Type} : Lit × DataW H → Nat
  | (.string bytes, d) => bytes.length + uptoBulk d + 1
  | (_, d) => uptoBulk d + 1
 end
def uptoSmall : (H : Type) → List (DataW H) → Bool := fun _ ds => decide (uptoBulkAll ds ≤ 1048576)
def OpenSpec.upto (s : _root_.Go.ChangeSpec) : _root_.Go.OpenSpec := { _root_.Go.OpenSpec.ofChange s with cond := some uptoSmall }

/-- 'laws.FnExactRelationsOf', WHERE WHAT IT READS IS OF BULK AT MOST 1048576: true; the input reads as it did. -/
def fnExactRelationsOfUptoRow : OpenClaim := { program := "ytejghidllochoaadoor", sum := "a4582539c68dff50b21601c2ad20c9cabafe8b8311ae9367c2199b93afab9f9f", func := "loop.example/g01380/laws.FnExactRelationsOf", spec := "fnExactRelationsOf", unfollowed := true, recurses := true, named := ["loop.example/g01380/impl.matrixS", "loop.example/g01380/impl.identity"], plainKeys := false, apart := false, laid := [("loop.example/g01380/impl.identity", laid_loop_example_g01380_impl_identity), ("loop.example/g01380/impl.matrixS", laid_loop_example_g01380_impl_matrixS)], narrowed := true }
def FnExactRelationsOfUptoSaid : Prop := fnExactRelationsOfUptoRow.holds Tryd.pinned (OpenSpec.upto fnExactRelationsOfSpec)

/-- 'laws.FnExactRankOf', WHERE WHAT IT READS IS OF BULK AT MOST 1048576: true; the input reads as it did. -/
def fnExactRankOfUptoRow : OpenClaim := { program := "ytejghidllochoaadoor", sum := "a4582539c68dff50b21601c2ad20c9cabafe8b8311ae9367c2199b93afab9f9f", func := "loop.example/g01380/laws.FnExactRankOf", spec := "fnExactRankOf", unfollowed := true, recurses := true, named := ["loop.example/g01380/impl.matrixS", "loop.example/g01380/impl.identity"], plainKeys := false, apart := false, laid := [("loop.example/g01380/impl.identity", laid_loop_example_g01380_impl_identity), ("loop.example/g01380/impl.matrixS", laid_loop_example_g01380_impl_matrixS)], narrowed := true }
def FnExactRankOfUptoSaid : Prop := fnExactRankOfUptoRow.holds Tryd.pinned (OpenSpec.upto fnExactRankOfSpec)

/-- 'laws.FnExactDimensionOf', WHERE WHAT IT READS IS OF BULK AT MOST 1048576: true; the input reads as it did. -/
def fnExactDimensionOfUptoRow : OpenClaim := { program := "ytejghidllochoaadoor", sum := "a4582539c68dff50b21601c2ad20c9cabafe8b8311ae9367c2199b93afab9f9f", func := "loop.example/g01380/laws.FnExactDimensionOf", spec := "fnExactDimensionOf", unfollowed := true, recurses := true, named := ["loop.example/g01380/impl.matrixS", "loop.example/g01380/impl.identity"], plainKeys := false, apart := false, laid := [("loop.example/g01380/impl.identity", laid_loop_example_g01380_impl_identity), ("loop.example/g01380/impl.matrixS", laid_loop_example_g01380_impl_matrixS)], narrowed := true }
def FnExactDimensionOfUptoSaid : Prop := fnExactDimensionOfUptoRow.holds Tryd.pinned (OpenSpec.upto fnExactDimensionOfSpec)

/-- 'laws.FnExactGoes', WHERE WHAT IT READS IS OF BULK AT MOST 1048576: true; the input reads as it did. -/
def fnExactGoesUptoRow : OpenClaim := { program := "ytejghidllochoaadoor", sum := "a4582539c68dff50b21601c2ad20c9cabafe8b8311ae9367c2199b93afab9f9f", func := "loop.example/g01380/laws.FnExactGoes", spec := "fnExactGoes", unfollowed := true, recurses := true, named := ["loop.example/g01380/impl.matrixS", "loop.example/g01380/impl.identity", "loop.example/g01380/impl.errLeft"], ifaces := true, plainKeys := false, apart := false, laid := [("loop.example/g01380/impl.identity", laid_loop_example_g01380_impl_identity), ("loop.example/g01380/impl.matrixS", laid_loop_example_g01380_impl_matrixS), ("loop.example/g01380/impl.errLeft", laid_loop_example_g01380_impl_errLeft)], narrowed := true }
def FnExactGoesUptoSaid : Prop := fnExactGoesUptoRow.holds Tryd.pinned (OpenSpec.upto fnExactGoesSpec)

/-- 'laws.FnExactAreEqualMixes', WHERE WHAT IT READS IS OF BULK AT MOST 1048576: true; the input reads as it did. -/
def fnExactAreEqualMixesUptoRow : OpenClaim := { program := "ytejghidllochoaadoor", sum := "a4582539c68dff50b21601c2ad20c9cabafe8b8311ae9367c2199b93afab9f9f", func := "loop.example/g01380/laws.FnExactAreEqualMixes", spec := "fnExactAreEqualMixes", unfollowed := true, recurses := true, named := ["loop.example/g01380/impl.matrixS", "loop.example/g01380/impl.identity", "loop.example/g01380/impl.errLeft"], ifaces := true, plainKeys := false, apart := false, laid := [("loop.example/g01380/impl.identity", laid_loop_example_g01380_impl_identity), ("loop.example/g01380/impl.matrixS", laid_loop_example_g01380_impl_matrixS), ("loop.example/g01380/impl.errLeft", laid_loop_example_g01380_impl_errLeft)], narrowed := true }
def FnExactAreEqualMixesUptoSaid : Prop := fnExactAreEqualMixesUptoRow.holds Tryd.pinned (OpenSpec.upto fnExactAreEqualMixesSpec)

/-- 'laws.FnExactEndsOf', WHERE WHAT IT READS IS OF BULK AT MOST 1048576: true; the input reads as it did. -/
def fnExactEndsOfUptoRow : OpenClaim := { program := "ytejghidllochoaadoor", sum := "a4582539c68dff50b21601c2ad20c9cabafe8b8311ae9367c2199b93afab9f9f", func := "loop.example/g01380/laws.FnExactEndsOf", spec := "fnExactEndsOf", unfollowed := true, recurses := true, named := ["loop.example/g01380/impl.matrixS"], plainKeys := false, apart := false, laid := [("loop.example/g01380/impl.matrixS", laid_loop_example_g01380_impl_matrixS)], narrowed := true }
def FnExactEndsOfUptoSaid : Prop := fnExactEndsOfUptoRow.holds Tryd.pinned (OpenSpec.upto fnExactEndsOfSpec)

/-- 'laws.FnExactCuspOfFraction', WHERE WHAT IT READS IS OF BULK AT MOST 1048576: true; the input reads as it did. -/
def fnExactCuspOfFractionUptoRow : OpenClaim := { program := "ytejghidllochoaadoor", sum := "a4582539c68dff50b21601c2ad20c9cabafe8b8311ae9367c2199b93afab9f9f", func := "loop.example/g01380/laws.FnExactCuspOfFraction", spec := "fnExactCuspOfFraction", unfollowed := true, recurses := true, named := ["loop.example/g01380/impl.identity"], plainKeys := false, apart := false, laid := [("loop.example/g01380/impl.identity", laid_loop_example_g01380_impl_identity)], narrowed := true }
def FnExactCuspOfFractionUptoSaid : Prop := fnExactCuspOfFractionUptoRow.holds Tryd.pinned (OpenSpec.upto fnExactCuspOfFractionSpec)

end Rows
end Go.Proofs.YtejghidllochoaaDoor
