/-
  NARROWER THAN 'FOR EVERY INPUT', by the rows' own cells (each row's printed sentence says how): FnExactParabolicShift: laid · FnExactEllipticName: laid · FnExactParentsOf: ifaces, laid · FnExactOrderOf: laid · FnExactConvergentsOf: ifaces, laid · FnExactNextInRow: ifaces, laid.
  DERIVED. THE GIVEN ROWS OF THIS SEAT. 6 by the template 'for every input the law returns true; each argument reads behind the call as it read before'; 0 by the template 'total and deterministic' (their statements: YtpmifhjbngocmaaDoorTotals.lean).
  GIVEN WITH THE SEED: the statements are not yours to turn. If you find one false, say at which input.
  Laid BY PROGRAM, IN A SANDBOX (cutbox-rows.mjs): the forced cells as the released guide's own fill.sh prints them over the translation 7069e4c3e11fcf87… (all of the seat's roots in one cut). By AI agents, Wed Nov 11 2026. No macro, syntax, notation, axiom, sorry.
-/
import Derived.Test.YtpmifhjbngocmaaDoorChecked
import GoSem.Claim
import GoSem.ClaimJoined
import GoSem.ClaimMapViews
import Derived.JoinedTies
import Derived.KernelRfl
namespace Go.Proofs.YtpmifhjbngocmaaDoor
/- THE CELL 'sum', in the pinned program and in every row, IS THE sha256 OF THE DUMP (.gsa) THAT YtpmifhjbngocmaaDoorProg.lean LOADS. Nothing in Lean hashes anything: it is a label: what it is worth is what the hold of that sum in a sandbox is worth. -/
noncomputable def Tryd.pinned : Pinned := { name := "ytpmifhjbngocmaadoor", sum := "7069e4c3e11fcf879fa090b2ffb3d0f7d506842fed6b26889eb6121682e208df", checked := Tryd.checked }
namespace Rows
def none {H : Type} : Left H := { results := [], args := [] }

/- WHAT THE LISTED PACKAGE-LEVEL VARIABLES READ AS WHEN THE CALL BEGINS. Each datum BY PROGRAM (the guide's laid-datum.mjs) off the statement by which the dump's own 'gosem.cut.vars' lays the variable. In a bare row this is a premise. The card (YtpmifhjbngocmaaDoorCards.lean) ties it to the program's text. -/
def laid_loop_example_g01380_impl_identity {H : Type} : DataW H := .agg [.lit (.int .i64 1), .lit (.int .i64 0), .lit (.int .i64 0), .lit (.int .i64 1)]
def laid_loop_example_g01380_impl_errNoFraction {H : Type} : DataW H := .iface "*errors.errorString" (.ptr (.agg [.lit (.string [110, 111, 116, 32, 97, 32, 102, 114, 97, 99, 116, 105, 111, 110])]))

/-- 'laws.FnExactParabolicShift': WHATEVER THE INPUT: true; the input reads as it did. -/
def fnExactParabolicShiftSpec : ChangeSpec := { name := "fnExactParabolicShift", vars := ["loop.example/g01380/impl.identity"], fn := fun _ => fun
  | [d, g1] => { results := [.lit (.bool true)], args := [d], vars := [g1] }
  | _ => none }
def fnExactParabolicShiftRow : OpenClaim := { program := "ytpmifhjbngocmaadoor", sum := "7069e4c3e11fcf879fa090b2ffb3d0f7d506842fed6b26889eb6121682e208df", func := "loop.example/g01380/laws.FnExactParabolicShift", spec := "fnExactParabolicShift", named := ["loop.example/g01380/impl.identity"], plainKeys := false, apart := false, laid := [("loop.example/g01380/impl.identity", laid_loop_example_g01380_impl_identity)] }
def FnExactParabolicShiftSaid : Prop := fnExactParabolicShiftRow.holds Tryd.pinned (OpenSpec.ofChange fnExactParabolicShiftSpec)

/-- ITS FALSE NEIGHBOUR: 'it returns false'. Refute it at one input. -/
def fnExactParabolicShiftWrong : ChangeSpec := { name := "fnExactParabolicShift", vars := ["loop.example/g01380/impl.identity"], fn := fun _ => fun
  | [d, g1] => { results := [.lit (.bool false)], args := [d], vars := [g1] }
  | _ => none }
def FnExactParabolicShiftWrongFalsely : Prop := fnExactParabolicShiftRow.holds Tryd.pinned (OpenSpec.ofChange fnExactParabolicShiftWrong)

/-- 'laws.FnExactEllipticName': WHATEVER THE INPUT: true; the input reads as it did. -/
def fnExactEllipticNameSpec : ChangeSpec := { name := "fnExactEllipticName", vars := ["loop.example/g01380/impl.identity"], fn := fun _ => fun
  | [d, g1] => { results := [.lit (.bool true)], args := [d], vars := [g1] }
  | _ => none }
def fnExactEllipticNameRow : OpenClaim := { program := "ytpmifhjbngocmaadoor", sum := "7069e4c3e11fcf879fa090b2ffb3d0f7d506842fed6b26889eb6121682e208df", func := "loop.example/g01380/laws.FnExactEllipticName", spec := "fnExactEllipticName", named := ["loop.example/g01380/impl.identity"], plainKeys := false, apart := false, laid := [("loop.example/g01380/impl.identity", laid_loop_example_g01380_impl_identity)] }
def FnExactEllipticNameSaid : Prop := fnExactEllipticNameRow.holds Tryd.pinned (OpenSpec.ofChange fnExactEllipticNameSpec)

/-- ITS FALSE NEIGHBOUR: 'it returns false'. Refute it at one input. -/
def fnExactEllipticNameWrong : ChangeSpec := { name := "fnExactEllipticName", vars := ["loop.example/g01380/impl.identity"], fn := fun _ => fun
  | [d, g1] => { results := [.lit (.bool false)], args := [d], vars := [g1] }
  | _ => none }
def FnExactEllipticNameWrongFalsely : Prop := fnExactEllipticNameRow.holds Tryd.pinned (OpenSpec.ofChange fnExactEllipticNameWrong)

/-- 'laws.FnExactParentsOf': WHATEVER THE INPUT: true; the input reads as it did. -/
def fnExactParentsOfSpec : ChangeSpec := { name := "fnExactParentsOf", vars := ["loop.example/g01380/impl.errNoFraction", "loop.example/g01380/impl.identity"], fn := fun _ => fun
  | [d, g1, g2] => { results := [.lit (.bool true)], args := [d], vars := [g1, g2] }
  | _ => none }
def fnExactParentsOfRow : OpenClaim := { program := "ytpmifhjbngocmaadoor", sum := "7069e4c3e11fcf879fa090b2ffb3d0f7d506842fed6b26889eb6121682e208df", func := "loop.example/g01380/laws.FnExactParentsOf", spec := "fnExactParentsOf", unfollowed := true, recurses := true, named := ["loop.example/g01380/impl.errNoFraction", "loop.example/g01380/impl.identity"], ifaces := true, plainKeys := false, apart := false, laid := [("loop.example/g01380/impl.identity", laid_loop_example_g01380_impl_identity), ("loop.example/g01380/impl.errNoFraction", laid_loop_example_g01380_impl_errNoFraction)] }
def FnExactParentsOfSaid : Prop := fnExactParentsOfRow.holds Tryd.pinned (OpenSpec.ofChange fnExactParentsOfSpec)

/-- ITS FALSE NEIGHBOUR: 'it returns false'. Refute it at one input. -/
def fnExactParentsOfWrong : ChangeSpec := { name := "fnExactParentsOf", vars := ["loop.example/g01380/impl.errNoFraction", "loop.example/g01380/impl.identity"], fn := fun _ => fun
  | [d, g1, g2] => { results := [.lit (.bool false)], args := [d], vars := [g1, g2] }
  | _ => none }
def FnExactParentsOfWrongFalsely : Prop := fnExactParentsOfRow.holds Tryd.pinned (OpenSpec.ofChange fnExactParentsOfWrong)

/-- 'laws.FnExactOrderOf': WHATEVER THE INPUT: true; the input reads as it did. -/
def fnExactOrderOfSpec : ChangeSpec := { name := "fnExactOrderOf", vars := ["loop.example/g01380/impl.identity"], fn := fun _ => fun
  | [d, g1] => { results := [.lit (.bool true)], args := [d], vars := [g1] }
  | _ => none }
def fnExactOrderOfRow : OpenClaim := { program := "ytpmifhjbngocmaadoor", sum := "7069e4c3e11fcf879fa090b2ffb3d0f7d506842fed6b26889eb6121682e208df", func := "loop.example/g01380/laws.FnExactOrderOf", spec := "fnExactOrderOf", named := ["loop.example/g01380/impl.identity"], plainKeys := false, apart := false, laid := [("loop.example/g01380/impl.identity", laid_loop_example_g01380_impl_identity)] }
def FnExactOrderOfSaid : Prop := fnExactOrderOfRow.holds Tryd.pinned (OpenSpec.ofChange fnExactOrderOfSpec)

/-- ITS FALSE NEIGHBOUR: 'it returns false'. Refute it at one input. -/
def fnExactOrderOfWrong : ChangeSpec := { name := "fnExactOrderOf", vars := ["loop.example/g01380/impl.identity"], fn := fun _ => fun
  | [d, g1] => { results := [.lit (.bool false)], args := [d], vars := [g1] }
  | _ => none }
def FnExactOrderOfWrongFalsely : Prop := fnExactOrderOfRow.holds Tryd.pinned (OpenSpec.ofChange fnExactOrderOfWrong)

/-- 'laws.FnExactConvergentsOf': WHATEVER THE INPUT: true; the input reads as it did. -/
def fnExactConvergentsOfSpec : ChangeSpec := { name := "fnExactConvergentsOf", vars := ["loop.example/g01380/impl.errNoFraction"], fn := fun _ => fun
  | [d, g1] => { results := [.lit (.bool true)], args := [d], vars := [g1] }
  | _ => none }
def fnExactConvergentsOfRow : OpenClaim := { program := "ytpmifhjbngocmaadoor", sum := "7069e4c3e11fcf879fa090b2ffb3d0f7d506842fed6b26889eb6121682e208df", func := "loop.example/g01380/laws.FnExactConvergentsOf", spec := "fnExactConvergentsOf", unfollowed := true, recurses := true, named := ["loop.example/g01380/impl.errNoFraction"], ifaces := true, plainKeys := false, apart := false, laid := [("loop.example/g01380/impl.errNoFraction", laid_loop_example_g01380_impl_errNoFraction)] }
def FnExactConvergentsOfSaid : Prop := fnExactConvergentsOfRow.holds Tryd.pinned (OpenSpec.ofChange fnExactConvergentsOfSpec)

/-- ITS FALSE NEIGHBOUR: 'it returns false'. Refute it at one input. -/
def fnExactConvergentsOfWrong : ChangeSpec := { name := "fnExactConvergentsOf", vars := ["loop.example/g01380/impl.errNoFraction"], fn := fun _ => fun
  | [d, g1] => { results := [.lit (.bool false)], args := [d], vars := [g1] }
  | _ => none }
def FnExactConvergentsOfWrongFalsely : Prop := fnExactConvergentsOfRow.holds Tryd.pinned (OpenSpec.ofChange fnExactConvergentsOfWrong)

/-- 'laws.FnExactNextInRow': WHATEVER THE INPUT: true; the input reads as it did. -/
def fnExactNextInRowSpec : ChangeSpec := { name := "fnExactNextInRow", vars := ["loop.example/g01380/impl.errNoFraction"], fn := fun _ => fun
  | [d1, d2, g1] => { results := [.lit (.bool true)], args := [d1, d2], vars := [g1] }
  | _ => none }
def fnExactNextInRowRow : OpenClaim := { program := "ytpmifhjbngocmaadoor", sum := "7069e4c3e11fcf879fa090b2ffb3d0f7d506842fed6b26889eb6121682e208df", func := "loop.example/g01380/laws.FnExactNextInRow", spec := "fnExactNextInRow", unfollowed := true, recurses := true, named := ["loop.example/g01380/impl.errNoFraction"], ifaces := true, plainKeys := false, apart := false, laid := [("loop.example/g01380/impl.errNoFraction", laid_loop_example_g01380_impl_errNoFraction)] }
def FnExactNextInRowSaid : Prop := fnExactNextInRowRow.holds Tryd.pinned (OpenSpec.ofChange fnExactNextInRowSpec)

/-- ITS FALSE NEIGHBOUR: 'it returns false'. Refute it at one input. -/
def fnExactNextInRowWrong : ChangeSpec := { name := "fnExactNextInRow", vars := ["loop.example/g01380/impl.errNoFraction"], fn := fun _ => fun
  | [d1, d2, g1] => { results := [.lit (.bool false)], args := [d1, d2], vars := [g1] }
  | _ => none }
def FnExactNextInRowWrongFalsely : Prop := fnExactNextInRowRow.holds Tryd.pinned (OpenSpec.ofChange fnExactNextInRowWrong)

/- THE SECOND FORM. 'bulk': how many values and letters a reading holds, each counted each time it is reached (what is shared counts as often as it is met; a slice's spare places count too). A statement '..UptoSaid' is the law's where the arguments, and the package variables that the reading takes, are together of bulk at most 1048576: NARROWER than '..Said'. Prove '..Said' where nothing that the law and all that it calls make is longer than what came in: it says more and counts as full. Else prove '..UptoSaid'. A law counts once. -/
mutual
def uptoBulk {H : Type} : DataW H → Nat
  | .lit (.string bytes) => bytes.length + 1
  | .lit _ => 1
  | .nil => 1
  | .ptr d => uptoBulk d + 1
  | .slice elems spare => uptoBulkAll elems + uptoBulkAll spare + 1
  | .agg parts => uptoBulkAll parts + 1
  | .iface _ d => uptoBulk d + 1
  | .map entries => uptoBulkEntries entries + 1
  | .held _ => 1
def uptoBulkAll {H : Type} : List (DataW H) → Nat
  | [] => 0
  | d :: r => uptoBulk d + uptoBulkAll r
def uptoBulkEntries {H : Type} : List (Lit × DataW H) → Nat
  | [] => 0
  | x :: r => uptoBulkEntry x + uptoBulkEntries r
def uptoBulkEntry {H : Type} : Lit × DataW H → Nat
  | (.string bytes, d) => bytes.length + uptoBulk d + 1
  | (_, d) => uptoBulk d + 1
 end
def uptoSmall : (H : Type) → List (DataW H) → Bool := fun _ ds => decide (uptoBulkAll ds ≤ 1048576)
def OpenSpec.upto (s : _root_.Go.ChangeSpec) : _root_.Go.OpenSpec := { _root_.Go.OpenSpec.ofChange s with cond := some uptoSmall }

/-- 'laws.FnExactParabolicShift', WHERE WHAT IT READS IS OF BULK AT MOST 1048576: true; the input reads as it did. -/
def fnExactParabolicShiftUptoRow : OpenClaim := { program := "ytpmifhjbngocmaadoor", sum := "7069e4c3e11fcf879fa090b2ffb3d0f7d506842fed6b26889eb6121682e208df", func := "loop.example/g01380/laws.FnExactParabolicShift", spec := "fnExactParabolicShift", named := ["loop.example/g01380/impl.identity"], plainKeys := false, apart := false, laid := [("loop.example/g01380/impl.identity", laid_loop_example_g01380_impl_identity)], narrowed := true }
def FnExactParabolicShiftUptoSaid : Prop := fnExactParabolicShiftUptoRow.holds Tryd.pinned (OpenSpec.upto fnExactParabolicShiftSpec)

/-- 'laws.FnExactEllipticName', WHERE WHAT IT READS IS OF BULK AT MOST 1048576: true; the input reads as it did. -/
def fnExactEllipticNameUptoRow : OpenClaim := { program := "ytpmifhjbngocmaadoor", sum := "7069e4c3e11fcf879fa090b2ffb3d0f7d506842fed6b26889eb6121682e208df", func := "loop.example/g01380/laws.FnExactEllipticName", spec := "fnExactEllipticName", named := ["loop.example/g01380/impl.identity"], plainKeys := false, apart := false, laid := [("loop.example/g01380/impl.identity", laid_loop_example_g01380_impl_identity)], narrowed := true }
def FnExactEllipticNameUptoSaid : Prop := fnExactEllipticNameUptoRow.holds Tryd.pinned (OpenSpec.upto fnExactEllipticNameSpec)

/-- 'laws.FnExactParentsOf', WHERE WHAT IT READS IS OF BULK AT MOST 1048576: true; the input reads as it did. -/
def fnExactParentsOfUptoRow : OpenClaim := { program := "ytpmifhjbngocmaadoor", sum := "7069e4c3e11fcf879fa090b2ffb3d0f7d506842fed6b26889eb6121682e208df", func := "loop.example/g01380/laws.FnExactParentsOf", spec := "fnExactParentsOf", unfollowed := true, recurses := true, named := ["loop.example/g01380/impl.errNoFraction", "loop.example/g01380/impl.identity"], ifaces := true, plainKeys := false, apart := false, laid := [("loop.example/g01380/impl.identity", laid_loop_example_g01380_impl_identity), ("loop.example/g01380/impl.errNoFraction", laid_loop_example_g01380_impl_errNoFraction)], narrowed := true }
def FnExactParentsOfUptoSaid : Prop := fnExactParentsOfUptoRow.holds Tryd.pinned (OpenSpec.upto fnExactParentsOfSpec)

/-- 'laws.FnExactOrderOf', WHERE WHAT IT READS IS OF BULK AT MOST 1048576: true; the input reads as it did. -/
def fnExactOrderOfUptoRow : OpenClaim := { program := "ytpmifhjbngocmaadoor", sum := "7069e4c3e11fcf879fa090b2ffb3d0f7d506842fed6b26889eb6121682e208df", func := "loop.example/g01380/laws.FnExactOrderOf", spec := "fnExactOrderOf", named := ["loop.example/g01380/impl.identity"], plainKeys := false, apart := false, laid := [("loop.example/g01380/impl.identity", laid_loop_example_g01380_impl_identity)], narrowed := true }
def FnExactOrderOfUptoSaid : Prop := fnExactOrderOfUptoRow.holds Tryd.pinned (OpenSpec.upto fnExactOrderOfSpec)

/-- 'laws.FnExactConvergentsOf', WHERE WHAT IT READS IS OF BULK AT MOST 1048576: true; the input reads as it did. -/
def fnExactConvergentsOfUptoRow : OpenClaim := { program := "ytpmifhjbngocmaadoor", sum := "7069e4c3e11fcf879fa090b2ffb3d0f7d506842fed6b26889eb6121682e208df", func := "loop.example/g01380/laws.FnExactConvergentsOf", spec := "fnExactConvergentsOf", unfollowed := true, recurses := true, named := ["loop.example/g01380/impl.errNoFraction"], ifaces := true, plainKeys := false, apart := false, laid := [("loop.example/g01380/impl.errNoFraction", laid_loop_example_g01380_impl_errNoFraction)], narrowed := true }
def FnExactConvergentsOfUptoSaid : Prop := fnExactConvergentsOfUptoRow.holds Tryd.pinned (OpenSpec.upto fnExactConvergentsOfSpec)

/-- 'laws.FnExactNextInRow', WHERE WHAT IT READS IS OF BULK AT MOST 1048576: true; the input reads as it did. -/
def fnExactNextInRowUptoRow : OpenClaim := { program := "ytpmifhjbngocmaadoor", sum := "7069e4c3e11fcf879fa090b2ffb3d0f7d506842fed6b26889eb6121682e208df", func := "loop.example/g01380/laws.FnExactNextInRow", spec := "fnExactNextInRow", unfollowed := true, recurses := true, named := ["loop.example/g01380/impl.errNoFraction"], ifaces := true, plainKeys := false, apart := false, laid := [("loop.example/g01380/impl.errNoFraction", laid_loop_example_g01380_impl_errNoFraction)], narrowed := true }
def FnExactNextInRowUptoSaid : Prop := fnExactNextInRowUptoRow.holds Tryd.pinned (OpenSpec.upto fnExactNextInRowSpec)

end Rows
end Go.Proofs.YtpmifhjbngocmaaDoor
