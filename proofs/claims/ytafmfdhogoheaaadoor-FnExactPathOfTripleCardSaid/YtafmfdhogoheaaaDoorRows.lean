/-
  NARROWER THAN 'FOR EVERY INPUT', by the rows' own cells (each row's printed sentence says how): FnExactTriplesBelow: laid · FnExactMarkovNumbers: laid · FnExactPathOfTriple: laid · FnMarkov: laid · FnMarkovWords: laid.
  DERIVED. THE GIVEN ROWS OF THIS SEAT. 5 by the template 'for every input the law returns true; each argument reads behind the call as it read before'; 0 by the template 'total and deterministic' (their statements: YtafmfdhogoheaaaDoorTotals.lean).
  GIVEN WITH THE SEED: the statements are not yours to turn. If you find one false, say at which input.
  Laid BY PROGRAM, IN A SANDBOX (cutbox-rows.mjs): the forced cells as the released guide's own fill.sh prints them over the translation 3cf90a7f08c99b01… (all of the seat's roots in one cut). By AI agents, Wed Nov 11 2026. No macro, syntax, notation, axiom, sorry.
-/
import Derived.Test.YtafmfdhogoheaaaDoorChecked
import GoSem.Claim
import GoSem.ClaimJoined
import GoSem.ClaimMapViews
import Derived.JoinedTies
import Derived.KernelRfl
namespace Go.Proofs.YtafmfdhogoheaaaDoor
/- THE CELL 'sum', in the pinned program and in every row, IS THE sha256 OF THE DUMP (.gsa) THAT YtafmfdhogoheaaaDoorProg.lean LOADS. Nothing in Lean hashes anything: it is a label: what it is worth is what the hold of that sum in a sandbox is worth. -/
noncomputable def Tryd.pinned : Pinned := { name := "ytafmfdhogoheaaadoor", sum := "3cf90a7f08c99b015a61ff4b785ecff0d04357dcb5aaec0e5488e6d1ccad4abe", checked := Tryd.checked }
namespace Rows
def none {H : Type} : Left H := { results := [], args := [] }

/- WHAT THE LISTED PACKAGE-LEVEL VARIABLES READ AS WHEN THE CALL BEGINS. Each datum BY PROGRAM (the guide's laid-datum.mjs) off the statement by which the dump's own 'gosem.cut.vars' lays the variable. In a bare row this is a premise. The card (YtafmfdhogoheaaaDoorCards.lean) ties it to the program's text. -/
def laid_loop_example_g01380_impl_firstTriple {H : Type} : DataW H := .agg [.lit (.int .i64 1), .lit (.int .i64 1), .lit (.int .i64 1)]
def laid_loop_example_g01380_impl_identity {H : Type} : DataW H := .agg [.lit (.int .i64 1), .lit (.int .i64 0), .lit (.int .i64 0), .lit (.int .i64 1)]

/-- 'laws.FnExactTriplesBelow': WHATEVER THE INPUT: true; the input reads as it did. -/
def fnExactTriplesBelowSpec : ChangeSpec := { name := "fnExactTriplesBelow", vars := ["loop.example/g01380/impl.firstTriple"], fn := fun _ => fun
  | [d, g1] => { results := [.lit (.bool true)], args := [d], vars := [g1] }
  | _ => none }
def fnExactTriplesBelowRow : OpenClaim := { program := "ytafmfdhogoheaaadoor", sum := "3cf90a7f08c99b015a61ff4b785ecff0d04357dcb5aaec0e5488e6d1ccad4abe", func := "loop.example/g01380/laws.FnExactTriplesBelow", spec := "fnExactTriplesBelow", inPlace := ["slices.overlaps[loop.example/g01380/impl.Triple]"], unfollowed := true, recurses := true, named := ["loop.example/g01380/impl.firstTriple"], apart := false, laid := [("loop.example/g01380/impl.firstTriple", laid_loop_example_g01380_impl_firstTriple)] }
def FnExactTriplesBelowSaid : Prop := fnExactTriplesBelowRow.holds Tryd.pinned (OpenSpec.ofChange fnExactTriplesBelowSpec)

/-- ITS FALSE NEIGHBOUR: 'it returns false'. Refute it at one input. -/
def fnExactTriplesBelowWrong : ChangeSpec := { name := "fnExactTriplesBelow", vars := ["loop.example/g01380/impl.firstTriple"], fn := fun _ => fun
  | [d, g1] => { results := [.lit (.bool false)], args := [d], vars := [g1] }
  | _ => none }
def FnExactTriplesBelowWrongFalsely : Prop := fnExactTriplesBelowRow.holds Tryd.pinned (OpenSpec.ofChange fnExactTriplesBelowWrong)

/-- 'laws.FnExactMarkovNumbers': WHATEVER THE INPUT: true; the input reads as it did. -/
def fnExactMarkovNumbersSpec : ChangeSpec := { name := "fnExactMarkovNumbers", vars := ["loop.example/g01380/impl.firstTriple"], fn := fun _ => fun
  | [d, g1] => { results := [.lit (.bool true)], args := [d], vars := [g1] }
  | _ => none }
def fnExactMarkovNumbersRow : OpenClaim := { program := "ytafmfdhogoheaaadoor", sum := "3cf90a7f08c99b015a61ff4b785ecff0d04357dcb5aaec0e5488e6d1ccad4abe", func := "loop.example/g01380/laws.FnExactMarkovNumbers", spec := "fnExactMarkovNumbers", inPlace := ["slices.overlaps[loop.example/g01380/impl.Triple]", "slices.overlaps[int64]"], unfollowed := true, recurses := true, named := ["loop.example/g01380/impl.firstTriple"], apart := false, laid := [("loop.example/g01380/impl.firstTriple", laid_loop_example_g01380_impl_firstTriple)] }
def FnExactMarkovNumbersSaid : Prop := fnExactMarkovNumbersRow.holds Tryd.pinned (OpenSpec.ofChange fnExactMarkovNumbersSpec)

/-- ITS FALSE NEIGHBOUR: 'it returns false'. Refute it at one input. -/
def fnExactMarkovNumbersWrong : ChangeSpec := { name := "fnExactMarkovNumbers", vars := ["loop.example/g01380/impl.firstTriple"], fn := fun _ => fun
  | [d, g1] => { results := [.lit (.bool false)], args := [d], vars := [g1] }
  | _ => none }
def FnExactMarkovNumbersWrongFalsely : Prop := fnExactMarkovNumbersRow.holds Tryd.pinned (OpenSpec.ofChange fnExactMarkovNumbersWrong)

/-- 'laws.FnExactPathOfTriple': WHATEVER THE INPUT: true; the input reads as it did. -/
def fnExactPathOfTripleSpec : ChangeSpec := { name := "fnExactPathOfTriple", vars := ["loop.example/g01380/impl.firstTriple"], fn := fun _ => fun
  | [d, g1] => { results := [.lit (.bool true)], args := [d], vars := [g1] }
  | _ => none }
def fnExactPathOfTripleRow : OpenClaim := { program := "ytafmfdhogoheaaadoor", sum := "3cf90a7f08c99b015a61ff4b785ecff0d04357dcb5aaec0e5488e6d1ccad4abe", func := "loop.example/g01380/laws.FnExactPathOfTriple", spec := "fnExactPathOfTriple", recurses := true, named := ["loop.example/g01380/impl.firstTriple"], apart := false, laid := [("loop.example/g01380/impl.firstTriple", laid_loop_example_g01380_impl_firstTriple)] }
def FnExactPathOfTripleSaid : Prop := fnExactPathOfTripleRow.holds Tryd.pinned (OpenSpec.ofChange fnExactPathOfTripleSpec)

/-- ITS FALSE NEIGHBOUR: 'it returns false'. Refute it at one input. -/
def fnExactPathOfTripleWrong : ChangeSpec := { name := "fnExactPathOfTriple", vars := ["loop.example/g01380/impl.firstTriple"], fn := fun _ => fun
  | [d, g1] => { results := [.lit (.bool false)], args := [d], vars := [g1] }
  | _ => none }
def FnExactPathOfTripleWrongFalsely : Prop := fnExactPathOfTripleRow.holds Tryd.pinned (OpenSpec.ofChange fnExactPathOfTripleWrong)

/-- 'laws.FnMarkov': WHATEVER THE INPUT: true; the input reads as it did. -/
def fnMarkovSpec : ChangeSpec := { name := "fnMarkov", vars := ["loop.example/g01380/impl.firstTriple"], fn := fun _ => fun
  | [d, g1] => { results := [.lit (.bool true)], args := [d], vars := [g1] }
  | _ => none }
def fnMarkovRow : OpenClaim := { program := "ytafmfdhogoheaaadoor", sum := "3cf90a7f08c99b015a61ff4b785ecff0d04357dcb5aaec0e5488e6d1ccad4abe", func := "loop.example/g01380/laws.FnMarkov", spec := "fnMarkov", inPlace := ["slices.overlaps[loop.example/g01380/impl.Triple]", "slices.overlaps[int64]"], unfollowed := true, recurses := true, named := ["loop.example/g01380/impl.firstTriple"], apart := false, laid := [("loop.example/g01380/impl.firstTriple", laid_loop_example_g01380_impl_firstTriple)] }
def FnMarkovSaid : Prop := fnMarkovRow.holds Tryd.pinned (OpenSpec.ofChange fnMarkovSpec)

/-- ITS FALSE NEIGHBOUR: 'it returns false'. Refute it at one input. -/
def fnMarkovWrong : ChangeSpec := { name := "fnMarkov", vars := ["loop.example/g01380/impl.firstTriple"], fn := fun _ => fun
  | [d, g1] => { results := [.lit (.bool false)], args := [d], vars := [g1] }
  | _ => none }
def FnMarkovWrongFalsely : Prop := fnMarkovRow.holds Tryd.pinned (OpenSpec.ofChange fnMarkovWrong)

/-- 'laws.FnMarkovWords': WHATEVER THE INPUT: true; the input reads as it did. -/
def fnMarkovWordsSpec : ChangeSpec := { name := "fnMarkovWords", vars := ["loop.example/g01380/impl.identity", "loop.example/g01380/impl.firstTriple"], fn := fun _ => fun
  | [d, g1, g2] => { results := [.lit (.bool true)], args := [d], vars := [g1, g2] }
  | _ => none }
def fnMarkovWordsRow : OpenClaim := { program := "ytafmfdhogoheaaadoor", sum := "3cf90a7f08c99b015a61ff4b785ecff0d04357dcb5aaec0e5488e6d1ccad4abe", func := "loop.example/g01380/laws.FnMarkovWords", spec := "fnMarkovWords", recurses := true, named := ["loop.example/g01380/impl.identity", "loop.example/g01380/impl.firstTriple"], apart := false, laid := [("loop.example/g01380/impl.identity", laid_loop_example_g01380_impl_identity), ("loop.example/g01380/impl.firstTriple", laid_loop_example_g01380_impl_firstTriple)] }
def FnMarkovWordsSaid : Prop := fnMarkovWordsRow.holds Tryd.pinned (OpenSpec.ofChange fnMarkovWordsSpec)

/-- ITS FALSE NEIGHBOUR: 'it returns false'. Refute it at one input. -/
def fnMarkovWordsWrong : ChangeSpec := { name := "fnMarkovWords", vars := ["loop.example/g01380/impl.identity", "loop.example/g01380/impl.firstTriple"], fn := fun _ => fun
  | [d, g1, g2] => { results := [.lit (.bool false)], args := [d], vars := [g1, g2] }
  | _ => none }
def FnMarkovWordsWrongFalsely : Prop := fnMarkovWordsRow.holds Tryd.pinned (OpenSpec.ofChange fnMarkovWordsWrong)

/- THE SECOND FORM. 'bulk': how many values and letters a reading holds, each counted each time it is reached (what is shared counts as often as it is met; a slice's spare places count too). A statement '..UptoSaid' is the law's where the arguments, and the package variables that the reading takes, are together of bulk at most 1048576: NARROWER than '..Said'. Prove '..Said' where nothing that the law and all that it calls make is longer than what came in: it says more and counts as full. Else prove '..UptoSaid'. A law counts once. -/
mutual
def uptoBulk {H : Type} : DataW H → Nat
  | .lit (.string bytes) => bytes.length + 1
  | .lit _ => 1
  | .nil => 1
  | .ptr d => uptoBulk d + 1
  | .slice elems spare => uptoBulkAll elems + uptoBulkAll spare + 1
  | .agg parts => uptoBulkAll parts + 1
  | .iface _ d => uptoBulk d + 1
  | .map entries => uptoBulkEntries entries + 1
  | .held _ => 1
def uptoBulkAll {H : Type} : List (DataW H) → Nat
  | [] => 0
  | d :: r => uptoBulk d + uptoBulkAll r
def uptoBulkEntries {H : Type} : List (Lit × DataW H) → Nat
  | [] => 0
  | x :: r => uptoBulkEntry x + uptoBulkEntries r
def uptoBulkEntry {H : Type} : Lit × DataW H → Nat
  | (.string bytes, d) => bytes.length + uptoBulk d + 1
  | (_, d) => uptoBulk d + 1
 end
def uptoSmall : (H : Type) → List (DataW H) → Bool := fun _ ds => decide (uptoBulkAll ds ≤ 1048576)
def OpenSpec.upto (s : _root_.Go.ChangeSpec) : _root_.Go.OpenSpec := { _root_.Go.OpenSpec.ofChange s with cond := some uptoSmall }

/-- 'laws.FnExactTriplesBelow', WHERE WHAT IT READS IS OF BULK AT MOST 1048576: true; the input reads as it did. -/
def fnExactTriplesBelowUptoRow : OpenClaim := { program := "ytafmfdhogoheaaadoor", sum := "3cf90a7f08c99b015a61ff4b785ecff0d04357dcb5aaec0e5488e6d1ccad4abe", func := "loop.example/g01380/laws.FnExactTriplesBelow", spec := "fnExactTriplesBelow", inPlace := ["slices.overlaps[loop.example/g01380/impl.Triple]"], unfollowed := true, recurses := true, named := ["loop.example/g01380/impl.firstTriple"], apart := false, laid := [("loop.example/g01380/impl.firstTriple", laid_loop_example_g01380_impl_firstTriple)], narrowed := true }
def FnExactTriplesBelowUptoSaid : Prop := fnExactTriplesBelowUptoRow.holds Tryd.pinned (OpenSpec.upto fnExactTriplesBelowSpec)

/-- 'laws.FnExactMarkovNumbers', WHERE WHAT IT READS IS OF BULK AT MOST 1048576: true; the input reads as it did. -/
def fnExactMarkovNumbersUptoRow : OpenClaim := { program := "ytafmfdhogoheaaadoor", sum := "3cf90a7f08c99b015a61ff4b785ecff0d04357dcb5aaec0e5488e6d1ccad4abe", func := "loop.example/g01380/laws.FnExactMarkovNumbers", spec := "fnExactMarkovNumbers", inPlace := ["slices.overlaps[loop.example/g01380/impl.Triple]", "slices.overlaps[int64]"], unfollowed := true, recurses := true, named := ["loop.example/g01380/impl.firstTriple"], apart := false, laid := [("loop.example/g01380/impl.firstTriple", laid_loop_example_g01380_impl_firstTriple)], narrowed := true }
def FnExactMarkovNumbersUptoSaid : Prop := fnExactMarkovNumbersUptoRow.holds Tryd.pinned (OpenSpec.upto fnExactMarkovNumbersSpec)

/-- 'laws.FnExactPathOfTriple', WHERE WHAT IT READS IS OF BULK AT MOST 1048576: true; the input reads as it did. -/
def fnExactPathOfTripleUptoRow : OpenClaim := { program := "ytafmfdhogoheaaadoor", sum := "3cf90a7f08c99b015a61ff4b785ecff0d04357dcb5aaec0e5488e6d1ccad4abe", func := "loop.example/g01380/laws.FnExactPathOfTriple", spec := "fnExactPathOfTriple", recurses := true, named := ["loop.example/g01380/impl.firstTriple"], apart := false, laid := [("loop.example/g01380/impl.firstTriple", laid_loop_example_g01380_impl_firstTriple)], narrowed := true }
def FnExactPathOfTripleUptoSaid : Prop := fnExactPathOfTripleUptoRow.holds Tryd.pinned (OpenSpec.upto fnExactPathOfTripleSpec)

/-- 'laws.FnMarkov', WHERE WHAT IT READS IS OF BULK AT MOST 1048576: true; the input reads as it did. -/
def fnMarkovUptoRow : OpenClaim := { program := "ytafmfdhogoheaaadoor", sum := "3cf90a7f08c99b015a61ff4b785ecff0d04357dcb5aaec0e5488e6d1ccad4abe", func := "loop.example/g01380/laws.FnMarkov", spec := "fnMarkov", inPlace := ["slices.overlaps[loop.example/g01380/impl.Triple]", "slices.overlaps[int64]"], unfollowed := true, recurses := true, named := ["loop.example/g01380/impl.firstTriple"], apart := false, laid := [("loop.example/g01380/impl.firstTriple", laid_loop_example_g01380_impl_firstTriple)], narrowed := true }
def FnMarkovUptoSaid : Prop := fnMarkovUptoRow.holds Tryd.pinned (OpenSpec.upto fnMarkovSpec)

/-- 'laws.FnMarkovWords', WHERE WHAT IT READS IS OF BULK AT MOST 1048576: true; the input reads as it did. -/
def fnMarkovWordsUptoRow : OpenClaim := { program := "ytafmfdhogoheaaadoor", sum := "3cf90a7f08c99b015a61ff4b785ecff0d04357dcb5aaec0e5488e6d1ccad4abe", func := "loop.example/g01380/laws.FnMarkovWords", spec := "fnMarkovWords", recurses := true, named := ["loop.example/g01380/impl.identity", "loop.example/g01380/impl.firstTriple"], apart := false, laid := [("loop.example/g01380/impl.identity", laid_loop_example_g01380_impl_identity), ("loop.example/g01380/impl.firstTriple", laid_loop_example_g01380_impl_firstTriple)], narrowed := true }
def FnMarkovWordsUptoSaid : Prop := fnMarkovWordsUptoRow.holds Tryd.pinned (OpenSpec.upto fnMarkovWordsSpec)

end Rows
end Go.Proofs.YtafmfdhogoheaaaDoor
