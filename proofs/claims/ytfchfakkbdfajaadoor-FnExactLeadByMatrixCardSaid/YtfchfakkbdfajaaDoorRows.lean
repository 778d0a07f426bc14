/-
  NARROWER THAN 'FOR EVERY INPUT', by the rows' own cells (each row's printed sentence says how): FnExactLeadPoint: laid · FnExactActionOfLevel: laid · FnExactLeadByMatrix: laid · FnExactGenusOf: laid.
  DERIVED. THE GIVEN ROWS OF THIS SEAT. 4 by the template 'for every input the law returns true; each argument reads behind the call as it read before'; 0 by the template 'total and deterministic' (their statements: YtfchfakkbdfajaaDoorTotals.lean).
  GIVEN WITH THE SEED: the statements are not yours to turn. If you find one false, say at which input.
  Laid BY PROGRAM, IN A SANDBOX (cutbox-rows.mjs): the forced cells as the released guide's own fill.sh prints them over the translation 0bf0bb1d0fb7e5df… (all of the seat's roots in one cut). By AI agents, Wed Nov 11 2026. No macro, syntax, notation, axiom, sorry.
-/
import Derived.Test.YtfchfakkbdfajaaDoorChecked
import GoSem.Claim
import GoSem.ClaimJoined
import GoSem.ClaimMapViews
import Derived.JoinedTies
import Derived.KernelRfl
namespace Go.Proofs.YtfchfakkbdfajaaDoor
/- THE CELL 'sum', in the pinned program and in every row, IS THE sha256 OF THE DUMP (.gsa) THAT YtfchfakkbdfajaaDoorProg.lean LOADS. Nothing in Lean hashes anything: it is a label: what it is worth is what the hold of that sum in a sandbox is worth. -/
noncomputable def Tryd.pinned : Pinned := { name := "ytfchfakkbdfajaadoor", sum := "0bf0bb1d0fb7e5df8e4095f93f4f957c6b6e8c1b489c1ac464ede93486843db9", checked := Tryd.checked }
namespace Rows
def none {H : Type} : Left H := { results := [], args := [] }

/- WHAT THE LISTED PACKAGE-LEVEL VARIABLES READ AS WHEN THE CALL BEGINS. Each datum BY PROGRAM (the guide's laid-datum.mjs) off the statement by which the dump's own 'gosem.cut.vars' lays the variable. In a bare row this is a premise. The card (YtfchfakkbdfajaaDoorCards.lean) ties it to the program's text. -/
def laid_loop_example_g01380_impl_identity {H : Type} : DataW H := .agg [.lit (.int .i64 1), .lit (.int .i64 0), .lit (.int .i64 0), .lit (.int .i64 1)]
def laid_loop_example_g01380_impl_matrixS {H : Type} : DataW H := .agg [.lit (.int .i64 0), .lit (.int .i64 (-1)), .lit (.int .i64 1), .lit (.int .i64 0)]

/-- 'laws.FnExactLeadPoint': WHATEVER THE INPUT: true; the input reads as it did. -/
def fnExactLeadPointSpec : ChangeSpec := { name := "fnExactLeadPoint", vars := ["loop.example/g01380/impl.matrixS", "loop.example/g01380/impl.identity"], fn := fun _ => fun
  | [d1, d2, d3, g1, g2] => { results := [.lit (.bool true)], args := [d1, d2, d3], vars := [g1, g2] }
  | _ => none }
def fnExactLeadPointRow : OpenClaim := { program := "ytfchfakkbdfajaadoor", sum := "0bf0bb1d0fb7e5df8e4095f93f4f957c6b6e8c1b489c1ac464ede93486843db9", func := "loop.example/g01380/laws.FnExactLeadPoint", spec := "fnExactLeadPoint", inPlace := ["internal/bytealg.IndexByteString"], unfollowed := true, recurses := true, named := ["loop.example/g01380/impl.matrixS", "loop.example/g01380/impl.identity"], plainKeys := false, apart := false, laid := [("loop.example/g01380/impl.identity", laid_loop_example_g01380_impl_identity), ("loop.example/g01380/impl.matrixS", laid_loop_example_g01380_impl_matrixS)] }
def FnExactLeadPointSaid : Prop := fnExactLeadPointRow.holds Tryd.pinned (OpenSpec.ofChange fnExactLeadPointSpec)

/-- ITS FALSE NEIGHBOUR: 'it returns false'. Refute it at one input. -/
def fnExactLeadPointWrong : ChangeSpec := { name := "fnExactLeadPoint", vars := ["loop.example/g01380/impl.matrixS", "loop.example/g01380/impl.identity"], fn := fun _ => fun
  | [d1, d2, d3, g1, g2] => { results := [.lit (.bool false)], args := [d1, d2, d3], vars := [g1, g2] }
  | _ => none }
def FnExactLeadPointWrongFalsely : Prop := fnExactLeadPointRow.holds Tryd.pinned (OpenSpec.ofChange fnExactLeadPointWrong)

/-- 'laws.FnExactActionOfLevel': WHATEVER THE INPUT: true; the input reads as it did. -/
def fnExactActionOfLevelSpec : ChangeSpec := { name := "fnExactActionOfLevel", vars := ["loop.example/g01380/impl.matrixS"], fn := fun _ => fun
  | [d, g1] => { results := [.lit (.bool true)], args := [d], vars := [g1] }
  | _ => none }
def fnExactActionOfLevelRow : OpenClaim := { program := "ytfchfakkbdfajaadoor", sum := "0bf0bb1d0fb7e5df8e4095f93f4f957c6b6e8c1b489c1ac464ede93486843db9", func := "loop.example/g01380/laws.FnExactActionOfLevel", spec := "fnExactActionOfLevel", unfollowed := true, recurses := true, named := ["loop.example/g01380/impl.matrixS"], plainKeys := false, apart := false, laid := [("loop.example/g01380/impl.matrixS", laid_loop_example_g01380_impl_matrixS)] }
def FnExactActionOfLevelSaid : Prop := fnExactActionOfLevelRow.holds Tryd.pinned (OpenSpec.ofChange fnExactActionOfLevelSpec)

/-- ITS FALSE NEIGHBOUR: 'it returns false'. Refute it at one input. -/
def fnExactActionOfLevelWrong : ChangeSpec := { name := "fnExactActionOfLevel", vars := ["loop.example/g01380/impl.matrixS"], fn := fun _ => fun
  | [d, g1] => { results := [.lit (.bool false)], args := [d], vars := [g1] }
  | _ => none }
def FnExactActionOfLevelWrongFalsely : Prop := fnExactActionOfLevelRow.holds Tryd.pinned (OpenSpec.ofChange fnExactActionOfLevelWrong)

/-- 'laws.FnExactLeadByMatrix': WHATEVER THE INPUT: true; the input reads as it did. -/
def fnExactLeadByMatrixSpec : ChangeSpec := { name := "fnExactLeadByMatrix", vars := ["loop.example/g01380/impl.matrixS"], fn := fun _ => fun
  | [d1, d2, d3, g1] => { results := [.lit (.bool true)], args := [d1, d2, d3], vars := [g1] }
  | _ => none }
def fnExactLeadByMatrixRow : OpenClaim := { program := "ytfchfakkbdfajaadoor", sum := "0bf0bb1d0fb7e5df8e4095f93f4f957c6b6e8c1b489c1ac464ede93486843db9", func := "loop.example/g01380/laws.FnExactLeadByMatrix", spec := "fnExactLeadByMatrix", inPlace := ["internal/bytealg.IndexByteString"], unfollowed := true, recurses := true, named := ["loop.example/g01380/impl.matrixS"], plainKeys := false, apart := false, laid := [("loop.example/g01380/impl.matrixS", laid_loop_example_g01380_impl_matrixS)] }
def FnExactLeadByMatrixSaid : Prop := fnExactLeadByMatrixRow.holds Tryd.pinned (OpenSpec.ofChange fnExactLeadByMatrixSpec)

/-- ITS FALSE NEIGHBOUR: 'it returns false'. Refute it at one input. -/
def fnExactLeadByMatrixWrong : ChangeSpec := { name := "fnExactLeadByMatrix", vars := ["loop.example/g01380/impl.matrixS"], fn := fun _ => fun
  | [d1, d2, d3, g1] => { results := [.lit (.bool false)], args := [d1, d2, d3], vars := [g1] }
  | _ => none }
def FnExactLeadByMatrixWrongFalsely : Prop := fnExactLeadByMatrixRow.holds Tryd.pinned (OpenSpec.ofChange fnExactLeadByMatrixWrong)

/-- 'laws.FnExactGenusOf': WHATEVER THE INPUT: true; the input reads as it did. -/
def fnExactGenusOfSpec : ChangeSpec := { name := "fnExactGenusOf", vars := ["loop.example/g01380/impl.matrixS", "loop.example/g01380/impl.identity"], fn := fun _ => fun
  | [d, g1, g2] => { results := [.lit (.bool true)], args := [d], vars := [g1, g2] }
  | _ => none }
def fnExactGenusOfRow : OpenClaim := { program := "ytfchfakkbdfajaadoor", sum := "0bf0bb1d0fb7e5df8e4095f93f4f957c6b6e8c1b489c1ac464ede93486843db9", func := "loop.example/g01380/laws.FnExactGenusOf", spec := "fnExactGenusOf", unfollowed := true, recurses := true, named := ["loop.example/g01380/impl.matrixS", "loop.example/g01380/impl.identity"], plainKeys := false, apart := false, laid := [("loop.example/g01380/impl.identity", laid_loop_example_g01380_impl_identity), ("loop.example/g01380/impl.matrixS", laid_loop_example_g01380_impl_matrixS)] }
def FnExactGenusOfSaid : Prop := fnExactGenusOfRow.holds Tryd.pinned (OpenSpec.ofChange fnExactGenusOfSpec)

/-- ITS FALSE NEIGHBOUR: 'it returns false'. Refute it at one input. -/
def fnExactGenusOfWrong : ChangeSpec := { name := "fnExactGenusOf", vars := ["loop.example/g01380/impl.matrixS", "loop.example/g01380/impl.identity"], fn := fun _ => fun
  | [d, g1, g2] => { results := [.lit (.bool false)], args := [d], vars := [g1, g2] }
  | _ => none }
def FnExactGenusOfWrongFalsely : Prop := fnExactGenusOfRow.holds Tryd.pinned (OpenSpec.ofChange fnExactGenusOfWrong)

/- THE SECOND FORM. 'bulk': how many values and letters a reading holds, each counted each time it is reached (what is shared counts as often as it is met; a slice's spare places count too). A statement '..UptoSaid' is the law's where the arguments, and the package variables that the reading takes, are together of bulk at most 1048576: NARROWER than '..Said'. Prove '..Said' where nothing that the law and all that it calls make is longer than what came in: it says more and counts as full. Else prove '..UptoSaid'. A law counts once. -/
mutual
def uptoBulk {H : Type} : DataW H → Nat
  | .lit (.string bytes) => bytes.length + 1
  | .lit _ => 1
  | .nil => 1
  | .ptr d => uptoBulk d + 1
  | .slice elems spare => uptoBulkAll elems + uptoBulkAll spare + 1
  | .agg parts => uptoBulkAll parts + 1
  | .iface _ d => uptoBulk d + 1
  | .map entries => uptoBulkEntries entries + 1
  | .held _ => 1
def uptoBulkAll {H : Type} : List (DataW H) → Nat
  | [] => 0
  | d :: r => uptoBulk d + uptoBulkAll r
def uptoBulkEntries {H : Type} : List (Lit × DataW H) → Nat
  | [] => 0
  | x :: r => uptoBulkEntry x + uptoBulkEntries r
def uptoBulkEntry {H : Type} : Lit × DataW H → Nat
  | (.string bytes, d) => bytes.length + uptoBulk d + 1
  | (_, d) => uptoBulk d + 1
 end
def uptoSmall : (H : Type) → List (DataW H) → Bool := fun _ ds => decide (uptoBulkAll ds ≤ 1048576)
def OpenSpec.upto (s : _root_.Go.ChangeSpec) : _root_.Go.OpenSpec := { _root_.Go.OpenSpec.ofChange s with cond := some uptoSmall }

/-- 'laws.FnExactLeadPoint', WHERE WHAT IT READS IS OF BULK AT MOST 1048576: true; the input reads as it did. -/
def fnExactLeadPointUptoRow : OpenClaim := { program := "ytfchfakkbdfajaadoor", sum := "0bf0bb1d0fb7e5df8e4095f93f4f957c6b6e8c1b489c1ac464ede93486843db9", func := "loop.example/g01380/laws.FnExactLeadPoint", spec := "fnExactLeadPoint", inPlace := ["internal/bytealg.IndexByteString"], unfollowed := true, recurses := true, named := ["loop.example/g01380/impl.matrixS", "loop.example/g01380/impl.identity"], plainKeys := false, apart := false, laid := [("loop.example/g01380/impl.identity", laid_loop_example_g01380_impl_identity), ("loop.example/g01380/impl.matrixS", laid_loop_example_g01380_impl_matrixS)], narrowed := true }
def FnExactLeadPointUptoSaid : Prop := fnExactLeadPointUptoRow.holds Tryd.pinned (OpenSpec.upto fnExactLeadPointSpec)

/-- 'laws.FnExactActionOfLevel', WHERE WHAT IT READS IS OF BULK AT MOST 1048576: true; the input reads as it did. -/
def fnExactActionOfLevelUptoRow : OpenClaim := { program := "ytfchfakkbdfajaadoor", sum := "0bf0bb1d0fb7e5df8e4095f93f4f957c6b6e8c1b489c1ac464ede93486843db9", func := "loop.example/g01380/laws.FnExactActionOfLevel", spec := "fnExactActionOfLevel", unfollowed := true, recurses := true, named := ["loop.example/g01380/impl.matrixS"], plainKeys := false, apart := false, laid := [("loop.example/g01380/impl.matrixS", laid_loop_example_g01380_impl_matrixS)], narrowed := true }
def FnExactActionOfLevelUptoSaid : Prop := fnExactActionOfLevelUptoRow.holds Tryd.pinned (OpenSpec.upto fnExactActionOfLevelSpec)

/-- 'laws.FnExactLeadByMatrix', WHERE WHAT IT READS IS OF BULK AT MOST 1048576: true; the input reads as it did. -/
def fnExactLeadByMatrixUptoRow : OpenClaim := { program := "ytfchfakkbdfajaadoor", sum := "0bf0bb1d0fb7e5df8e4095f93f4f957c6b6e8c1b489c1ac464ede93486843db9", func := "loop.example/g01380/laws.FnExactLeadByMatrix", spec := "fnExactLeadByMatrix", inPlace := ["internal/bytealg.IndexByteString"], unfollowed := true, recurses := true, named := ["loop.example/g01380/impl.matrixS"], plainKeys := false, apart := false, laid := [("loop.example/g01380/impl.matrixS", laid_loop_example_g01380_impl_matrixS)], narrowed := true }
def FnExactLeadByMatrixUptoSaid : Prop := fnExactLeadByMatrixUptoRow.holds Tryd.pinned (OpenSpec.upto fnExactLeadByMatrixSpec)

/-- 'laws.FnExactGenusOf', WHERE WHAT IT READS IS OF BULK AT MOST 1048576: true; the input reads as it did. -/
def fnExactGenusOfUptoRow : OpenClaim := { program := "ytfchfakkbdfajaadoor", sum := "0bf0bb1d0fb7e5df8e4095f93f4f957c6b6e8c1b489c1ac464ede93486843db9", func := "loop.example/g01380/laws.FnExactGenusOf", spec := "fnExactGenusOf", unfollowed := true, recurses := true, named := ["loop.example/g01380/impl.matrixS", "loop.example/g01380/impl.identity"], plainKeys := false, apart := false, laid := [("loop.example/g01380/impl.identity", laid_loop_example_g01380_impl_identity), ("loop.example/g01380/impl.matrixS", laid_loop_example_g01380_impl_matrixS)], narrowed := true }
def FnExactGenusOfUptoSaid : Prop := fnExactGenusOfUptoRow.holds Tryd.pinned (OpenSpec.upto fnExactGenusOfSpec)

end Rows
end Go.Proofs.YtfchfakkbdfajaaDoor
