/-
  NARROWER THAN 'FOR EVERY INPUT', by the rows' own cells (each row's printed sentence says how): FnExactDownPath: laid · FnExactTracesOf: laid · FnExactMatrixOfLetters: laid · FnExactNumberOfPath: laid · FnExactTripleOfPath: laid · FnExactMatrixOfWord: laid · FnExactMatrixOfFree: laid · FnExactFractionOfPath: laid.
  DERIVED. THE GIVEN ROWS OF THIS SEAT. 8 by the template 'for every input the law returns true; each argument reads behind the call as it read before'; 0 by the template 'total and deterministic' (their statements: YtkeadknbdihkmaaDoorTotals.lean).
  GIVEN WITH THE SEED: the statements are not yours to turn. If you find one false, say at which input.
  Laid BY PROGRAM, IN A SANDBOX (cutbox-rows.mjs): the forced cells as the released guide's own fill.sh prints them over the translation 0d2842cd00018105… (all of the seat's roots in one cut). By AI agents, Wed Nov 11 2026. No macro, syntax, notation, axiom, sorry.
-/
import Derived.Test.YtkeadknbdihkmaaDoorChecked
import GoSem.Claim
import GoSem.ClaimJoined
import GoSem.ClaimMapViews
import Derived.JoinedTies
import Derived.KernelRfl
namespace Go.Proofs.YtkeadknbdihkmaaDoor
/- THE CELL 'sum', in the pinned program and in every row, IS THE sha256 OF THE DUMP (.gsa) THAT YtkeadknbdihkmaaDoorProg.lean LOADS. Nothing in Lean hashes anything: it is a label: what it is worth is what the hold of that sum in a sandbox is worth. -/
noncomputable def Tryd.pinned : Pinned := { name := "ytkeadknbdihkmaadoor", sum := "0d2842cd00018105b846e2c6ccaf4f9b3899cfb95478eb1bebdfc1ba4a169870", checked := Tryd.checked }
namespace Rows
def none {H : Type} : Left H := { results := [], args := [] }

/- WHAT THE LISTED PACKAGE-LEVEL VARIABLES READ AS WHEN THE CALL BEGINS. Each datum BY PROGRAM (the guide's laid-datum.mjs) off the statement by which the dump's own 'gosem.cut.vars' lays the variable. In a bare row this is a premise. The card (YtkeadknbdihkmaaDoorCards.lean) ties it to the program's text. -/
def laid_loop_example_g01380_impl_firstTriple {H : Type} : DataW H := .agg [.lit (.int .i64 1), .lit (.int .i64 1), .lit (.int .i64 1)]
def laid_loop_example_g01380_impl_identity {H : Type} : DataW H := .agg [.lit (.int .i64 1), .lit (.int .i64 0), .lit (.int .i64 0), .lit (.int .i64 1)]
def laid_loop_example_g01380_impl_matrixS {H : Type} : DataW H := .agg [.lit (.int .i64 0), .lit (.int .i64 (-1)), .lit (.int .i64 1), .lit (.int .i64 0)]

/-- 'laws.FnExactDownPath': WHATEVER THE INPUT: true; the input reads as it did. -/
def fnExactDownPathSpec : ChangeSpec := { name := "fnExactDownPath", vars := ["loop.example/g01380/impl.firstTriple"], fn := fun _ => fun
  | [d, g1] => { results := [.lit (.bool true)], args := [d], vars := [g1] }
  | _ => none }
def fnExactDownPathRow : OpenClaim := { program := "ytkeadknbdihkmaadoor", sum := "0d2842cd00018105b846e2c6ccaf4f9b3899cfb95478eb1bebdfc1ba4a169870", func := "loop.example/g01380/laws.FnExactDownPath", spec := "fnExactDownPath", recurses := true, named := ["loop.example/g01380/impl.firstTriple"], apart := false, laid := [("loop.example/g01380/impl.firstTriple", laid_loop_example_g01380_impl_firstTriple)] }
def FnExactDownPathSaid : Prop := fnExactDownPathRow.holds Tryd.pinned (OpenSpec.ofChange fnExactDownPathSpec)

/-- ITS FALSE NEIGHBOUR: 'it returns false'. Refute it at one input. -/
def fnExactDownPathWrong : ChangeSpec := { name := "fnExactDownPath", vars := ["loop.example/g01380/impl.firstTriple"], fn := fun _ => fun
  | [d, g1] => { results := [.lit (.bool false)], args := [d], vars := [g1] }
  | _ => none }
def FnExactDownPathWrongFalsely : Prop := fnExactDownPathRow.holds Tryd.pinned (OpenSpec.ofChange fnExactDownPathWrong)

/-- 'laws.FnExactTracesOf': WHATEVER THE INPUT: true; the input reads as it did. -/
def fnExactTracesOfSpec : ChangeSpec := { name := "fnExactTracesOf", vars := ["loop.example/g01380/impl.identity"], fn := fun _ => fun
  | [d1, d2, g1] => { results := [.lit (.bool true)], args := [d1, d2], vars := [g1] }
  | _ => none }
def fnExactTracesOfRow : OpenClaim := { program := "ytkeadknbdihkmaadoor", sum := "0d2842cd00018105b846e2c6ccaf4f9b3899cfb95478eb1bebdfc1ba4a169870", func := "loop.example/g01380/laws.FnExactTracesOf", spec := "fnExactTracesOf", named := ["loop.example/g01380/impl.identity"], apart := false, laid := [("loop.example/g01380/impl.identity", laid_loop_example_g01380_impl_identity)] }
def FnExactTracesOfSaid : Prop := fnExactTracesOfRow.holds Tryd.pinned (OpenSpec.ofChange fnExactTracesOfSpec)

/-- ITS FALSE NEIGHBOUR: 'it returns false'. Refute it at one input. -/
def fnExactTracesOfWrong : ChangeSpec := { name := "fnExactTracesOf", vars := ["loop.example/g01380/impl.identity"], fn := fun _ => fun
  | [d1, d2, g1] => { results := [.lit (.bool false)], args := [d1, d2], vars := [g1] }
  | _ => none }
def FnExactTracesOfWrongFalsely : Prop := fnExactTracesOfRow.holds Tryd.pinned (OpenSpec.ofChange fnExactTracesOfWrong)

/-- 'laws.FnExactMatrixOfLetters': WHATEVER THE INPUT: true; the input reads as it did. -/
def fnExactMatrixOfLettersSpec : ChangeSpec := { name := "fnExactMatrixOfLetters", vars := ["loop.example/g01380/impl.identity"], fn := fun _ => fun
  | [d, g1] => { results := [.lit (.bool true)], args := [d], vars := [g1] }
  | _ => none }
def fnExactMatrixOfLettersRow : OpenClaim := { program := "ytkeadknbdihkmaadoor", sum := "0d2842cd00018105b846e2c6ccaf4f9b3899cfb95478eb1bebdfc1ba4a169870", func := "loop.example/g01380/laws.FnExactMatrixOfLetters", spec := "fnExactMatrixOfLetters", named := ["loop.example/g01380/impl.identity"], apart := false, laid := [("loop.example/g01380/impl.identity", laid_loop_example_g01380_impl_identity)] }
def FnExactMatrixOfLettersSaid : Prop := fnExactMatrixOfLettersRow.holds Tryd.pinned (OpenSpec.ofChange fnExactMatrixOfLettersSpec)

/-- ITS FALSE NEIGHBOUR: 'it returns false'. Refute it at one input. -/
def fnExactMatrixOfLettersWrong : ChangeSpec := { name := "fnExactMatrixOfLetters", vars := ["loop.example/g01380/impl.identity"], fn := fun _ => fun
  | [d, g1] => { results := [.lit (.bool false)], args := [d], vars := [g1] }
  | _ => none }
def FnExactMatrixOfLettersWrongFalsely : Prop := fnExactMatrixOfLettersRow.holds Tryd.pinned (OpenSpec.ofChange fnExactMatrixOfLettersWrong)

/-- 'laws.FnExactNumberOfPath': WHATEVER THE INPUT: true; the input reads as it did. -/
def fnExactNumberOfPathSpec : ChangeSpec := { name := "fnExactNumberOfPath", vars := ["loop.example/g01380/impl.identity"], fn := fun _ => fun
  | [d, g1] => { results := [.lit (.bool true)], args := [d], vars := [g1] }
  | _ => none }
def fnExactNumberOfPathRow : OpenClaim := { program := "ytkeadknbdihkmaadoor", sum := "0d2842cd00018105b846e2c6ccaf4f9b3899cfb95478eb1bebdfc1ba4a169870", func := "loop.example/g01380/laws.FnExactNumberOfPath", spec := "fnExactNumberOfPath", named := ["loop.example/g01380/impl.identity"], apart := false, laid := [("loop.example/g01380/impl.identity", laid_loop_example_g01380_impl_identity)] }
def FnExactNumberOfPathSaid : Prop := fnExactNumberOfPathRow.holds Tryd.pinned (OpenSpec.ofChange fnExactNumberOfPathSpec)

/-- ITS FALSE NEIGHBOUR: 'it returns false'. Refute it at one input. -/
def fnExactNumberOfPathWrong : ChangeSpec := { name := "fnExactNumberOfPath", vars := ["loop.example/g01380/impl.identity"], fn := fun _ => fun
  | [d, g1] => { results := [.lit (.bool false)], args := [d], vars := [g1] }
  | _ => none }
def FnExactNumberOfPathWrongFalsely : Prop := fnExactNumberOfPathRow.holds Tryd.pinned (OpenSpec.ofChange fnExactNumberOfPathWrong)

/-- 'laws.FnExactTripleOfPath': WHATEVER THE INPUT: true; the input reads as it did. -/
def fnExactTripleOfPathSpec : ChangeSpec := { name := "fnExactTripleOfPath", vars := ["loop.example/g01380/impl.identity"], fn := fun _ => fun
  | [d, g1] => { results := [.lit (.bool true)], args := [d], vars := [g1] }
  | _ => none }
def fnExactTripleOfPathRow : OpenClaim := { program := "ytkeadknbdihkmaadoor", sum := "0d2842cd00018105b846e2c6ccaf4f9b3899cfb95478eb1bebdfc1ba4a169870", func := "loop.example/g01380/laws.FnExactTripleOfPath", spec := "fnExactTripleOfPath", recurses := true, named := ["loop.example/g01380/impl.identity"], apart := false, laid := [("loop.example/g01380/impl.identity", laid_loop_example_g01380_impl_identity)] }
def FnExactTripleOfPathSaid : Prop := fnExactTripleOfPathRow.holds Tryd.pinned (OpenSpec.ofChange fnExactTripleOfPathSpec)

/-- ITS FALSE NEIGHBOUR: 'it returns false'. Refute it at one input. -/
def fnExactTripleOfPathWrong : ChangeSpec := { name := "fnExactTripleOfPath", vars := ["loop.example/g01380/impl.identity"], fn := fun _ => fun
  | [d, g1] => { results := [.lit (.bool false)], args := [d], vars := [g1] }
  | _ => none }
def FnExactTripleOfPathWrongFalsely : Prop := fnExactTripleOfPathRow.holds Tryd.pinned (OpenSpec.ofChange fnExactTripleOfPathWrong)

/-- 'laws.FnExactMatrixOfWord': WHATEVER THE INPUT: true; the input reads as it did. -/
def fnExactMatrixOfWordSpec : ChangeSpec := { name := "fnExactMatrixOfWord", vars := ["loop.example/g01380/impl.matrixS", "loop.example/g01380/impl.identity"], fn := fun _ => fun
  | [d, g1, g2] => { results := [.lit (.bool true)], args := [d], vars := [g1, g2] }
  | _ => none }
def fnExactMatrixOfWordRow : OpenClaim := { program := "ytkeadknbdihkmaadoor", sum := "0d2842cd00018105b846e2c6ccaf4f9b3899cfb95478eb1bebdfc1ba4a169870", func := "loop.example/g01380/laws.FnExactMatrixOfWord", spec := "fnExactMatrixOfWord", named := ["loop.example/g01380/impl.matrixS", "loop.example/g01380/impl.identity"], apart := false, laid := [("loop.example/g01380/impl.identity", laid_loop_example_g01380_impl_identity), ("loop.example/g01380/impl.matrixS", laid_loop_example_g01380_impl_matrixS)] }
def FnExactMatrixOfWordSaid : Prop := fnExactMatrixOfWordRow.holds Tryd.pinned (OpenSpec.ofChange fnExactMatrixOfWordSpec)

/-- ITS FALSE NEIGHBOUR: 'it returns false'. Refute it at one input. -/
def fnExactMatrixOfWordWrong : ChangeSpec := { name := "fnExactMatrixOfWord", vars := ["loop.example/g01380/impl.matrixS", "loop.example/g01380/impl.identity"], fn := fun _ => fun
  | [d, g1, g2] => { results := [.lit (.bool false)], args := [d], vars := [g1, g2] }
  | _ => none }
def FnExactMatrixOfWordWrongFalsely : Prop := fnExactMatrixOfWordRow.holds Tryd.pinned (OpenSpec.ofChange fnExactMatrixOfWordWrong)

/-- 'laws.FnExactMatrixOfFree': WHATEVER THE INPUT: true; the input reads as it did. -/
def fnExactMatrixOfFreeSpec : ChangeSpec := { name := "fnExactMatrixOfFree", vars := ["loop.example/g01380/impl.matrixS", "loop.example/g01380/impl.identity"], fn := fun _ => fun
  | [d, g1, g2] => { results := [.lit (.bool true)], args := [d], vars := [g1, g2] }
  | _ => none }
def fnExactMatrixOfFreeRow : OpenClaim := { program := "ytkeadknbdihkmaadoor", sum := "0d2842cd00018105b846e2c6ccaf4f9b3899cfb95478eb1bebdfc1ba4a169870", func := "loop.example/g01380/laws.FnExactMatrixOfFree", spec := "fnExactMatrixOfFree", named := ["loop.example/g01380/impl.matrixS", "loop.example/g01380/impl.identity"], apart := false, laid := [("loop.example/g01380/impl.identity", laid_loop_example_g01380_impl_identity), ("loop.example/g01380/impl.matrixS", laid_loop_example_g01380_impl_matrixS)] }
def FnExactMatrixOfFreeSaid : Prop := fnExactMatrixOfFreeRow.holds Tryd.pinned (OpenSpec.ofChange fnExactMatrixOfFreeSpec)

/-- ITS FALSE NEIGHBOUR: 'it returns false'. Refute it at one input. -/
def fnExactMatrixOfFreeWrong : ChangeSpec := { name := "fnExactMatrixOfFree", vars := ["loop.example/g01380/impl.matrixS", "loop.example/g01380/impl.identity"], fn := fun _ => fun
  | [d, g1, g2] => { results := [.lit (.bool false)], args := [d], vars := [g1, g2] }
  | _ => none }
def FnExactMatrixOfFreeWrongFalsely : Prop := fnExactMatrixOfFreeRow.holds Tryd.pinned (OpenSpec.ofChange fnExactMatrixOfFreeWrong)

/-- 'laws.FnExactFractionOfPath': WHATEVER THE INPUT: true; the input reads as it did. -/
def fnExactFractionOfPathSpec : ChangeSpec := { name := "fnExactFractionOfPath", vars := ["loop.example/g01380/impl.identity"], fn := fun _ => fun
  | [d, g1] => { results := [.lit (.bool true)], args := [d], vars := [g1] }
  | _ => none }
def fnExactFractionOfPathRow : OpenClaim := { program := "ytkeadknbdihkmaadoor", sum := "0d2842cd00018105b846e2c6ccaf4f9b3899cfb95478eb1bebdfc1ba4a169870", func := "loop.example/g01380/laws.FnExactFractionOfPath", spec := "fnExactFractionOfPath", named := ["loop.example/g01380/impl.identity"], apart := false, laid := [("loop.example/g01380/impl.identity", laid_loop_example_g01380_impl_identity)] }
def FnExactFractionOfPathSaid : Prop := fnExactFractionOfPathRow.holds Tryd.pinned (OpenSpec.ofChange fnExactFractionOfPathSpec)

/-- ITS FALSE NEIGHBOUR: 'it returns false'. Refute it at one input. -/
def fnExactFractionOfPathWrong : ChangeSpec := { name := "fnExactFractionOfPath", vars := ["loop.example/g01380/impl.identity"], fn := fun _ => fun
  | [d, g1] => { results := [.lit (.bool false)], args := [d], vars := [g1] }
  | _ => none }
def FnExactFractionOfPathWrongFalsely : Prop := fnExactFractionOfPathRow.holds Tryd.pinned (OpenSpec.ofChange fnExactFractionOfPathWrong)

/- THE SECOND FORM. 'bulk': how many values and letters a reading holds, each counted each time it is reached (what is shared counts as often as it is met; a slice's spare places count too). A statement '..UptoSaid' is the law's where the arguments, and the package variables that the reading takes, are together of bulk at most 1048576: NARROWER than '..Said'. Prove '..Said' where nothing that the law and all that it calls make is longer than what came in: it says more and counts as full. Else prove '..UptoSaid'. A law counts once. -/
mutual
def uptoBulk {H : Type} : DataW H → Nat
  | .lit (.string bytes) => bytes.length + 1
  | .lit _ => 1
  | .nil => 1
  | .ptr d => uptoBulk d + 1
  | .slice elems spare => uptoBulkAll elems + uptoBulkAll spare + 1
  | .agg parts => uptoBulkAll parts + 1
  | .iface _ d => uptoBulk d + 1
  | .map entries => uptoBulkEntries entries + 1
  | .held _ => 1
def uptoBulkAll {H : Type} : List (DataW H) → Nat
  | [] => 0
  | d :: r => uptoBulk d + uptoBulkAll r
def uptoBulkEntries {H : Type} : List (Lit × DataW H) → Nat
  | [] => 0
  | x :: r => uptoBulkEntry x + uptoBulkEntries r
def uptoBulkEntry {H : Type} : Lit × DataW H → Nat
  | (.string bytes, d) => bytes.length + uptoBulk d + 1
  | (_, d) => uptoBulk d + 1
 end
def uptoSmall : (H : Type) → List (DataW H) → Bool := fun _ ds => decide (uptoBulkAll ds ≤ 1048576)
def OpenSpec.upto (s : _root_.Go.ChangeSpec) : _root_.Go.OpenSpec := { _root_.Go.OpenSpec.ofChange s with cond := some uptoSmall }

/-- 'laws.FnExactDownPath', WHERE WHAT IT READS IS OF BULK AT MOST 1048576: true; the input reads as it did. -/
def fnExactDownPathUptoRow : OpenClaim := { program := "ytkeadknbdihkmaadoor", sum := "0d2842cd00018105b846e2c6ccaf4f9b3899cfb95478eb1bebdfc1ba4a169870", func := "loop.example/g01380/laws.FnExactDownPath", spec := "fnExactDownPath", recurses := true, named := ["loop.example/g01380/impl.firstTriple"], apart := false, laid := [("loop.example/g01380/impl.firstTriple", laid_loop_example_g01380_impl_firstTriple)], narrowed := true }
def FnExactDownPathUptoSaid : Prop := fnExactDownPathUptoRow.holds Tryd.pinned (OpenSpec.upto fnExactDownPathSpec)

/-- 'laws.FnExactTracesOf', WHERE WHAT IT READS IS OF BULK AT MOST 1048576: true; the input reads as it did. -/
def fnExactTracesOfUptoRow : OpenClaim := { program := "ytkeadknbdihkmaadoor", sum := "0d2842cd00018105b846e2c6ccaf4f9b3899cfb95478eb1bebdfc1ba4a169870", func := "loop.example/g01380/laws.FnExactTracesOf", spec := "fnExactTracesOf", named := ["loop.example/g01380/impl.identity"], apart := false, laid := [("loop.example/g01380/impl.identity", laid_loop_example_g01380_impl_identity)], narrowed := true }
def FnExactTracesOfUptoSaid : Prop := fnExactTracesOfUptoRow.holds Tryd.pinned (OpenSpec.upto fnExactTracesOfSpec)

/-- 'laws.FnExactMatrixOfLetters', WHERE WHAT IT READS IS OF BULK AT MOST 1048576: true; the input reads as it did. -/
def fnExactMatrixOfLettersUptoRow : OpenClaim := { program := "ytkeadknbdihkmaadoor", sum := "0d2842cd00018105b846e2c6ccaf4f9b3899cfb95478eb1bebdfc1ba4a169870", func := "loop.example/g01380/laws.FnExactMatrixOfLetters", spec := "fnExactMatrixOfLetters", named := ["loop.example/g01380/impl.identity"], apart := false, laid := [("loop.example/g01380/impl.identity", laid_loop_example_g01380_impl_identity)], narrowed := true }
def FnExactMatrixOfLettersUptoSaid : Prop := fnExactMatrixOfLettersUptoRow.holds Tryd.pinned (OpenSpec.upto fnExactMatrixOfLettersSpec)

/-- 'laws.FnExactNumberOfPath', WHERE WHAT IT READS IS OF BULK AT MOST 1048576: true; the input reads as it did. -/
def fnExactNumberOfPathUptoRow : OpenClaim := { program := "ytkeadknbdihkmaadoor", sum := "0d2842cd00018105b846e2c6ccaf4f9b3899cfb95478eb1bebdfc1ba4a169870", func := "loop.example/g01380/laws.FnExactNumberOfPath", spec := "fnExactNumberOfPath", named := ["loop.example/g01380/impl.identity"], apart := false, laid := [("loop.example/g01380/impl.identity", laid_loop_example_g01380_impl_identity)], narrowed := true }
def FnExactNumberOfPathUptoSaid : Prop := fnExactNumberOfPathUptoRow.holds Tryd.pinned (OpenSpec.upto fnExactNumberOfPathSpec)

/-- 'laws.FnExactTripleOfPath', WHERE WHAT IT READS IS OF BULK AT MOST 1048576: true; the input reads as it did. -/
def fnExactTripleOfPathUptoRow : OpenClaim := { program := "ytkeadknbdihkmaadoor", sum := "0d2842cd00018105b846e2c6ccaf4f9b3899cfb95478eb1bebdfc1ba4a169870", func := "loop.example/g01380/laws.FnExactTripleOfPath", spec := "fnExactTripleOfPath", recurses := true, named := ["loop.example/g01380/impl.identity"], apart := false, laid := [("loop.example/g01380/impl.identity", laid_loop_example_g01380_impl_identity)], narrowed := true }
def FnExactTripleOfPathUptoSaid : Prop := fnExactTripleOfPathUptoRow.holds Tryd.pinned (OpenSpec.upto fnExactTripleOfPathSpec)

/-- 'laws.FnExactMatrixOfWord', WHERE WHAT IT READS IS OF BULK AT MOST 1048576: true; the input reads as it did. -/
def fnExactMatrixOfWordUptoRow : OpenClaim := { program := "ytkeadknbdihkmaadoor", sum := "0d2842cd00018105b846e2c6ccaf4f9b3899cfb95478eb1bebdfc1ba4a169870", func := "loop.example/g01380/laws.FnExactMatrixOfWord", spec := "fnExactMatrixOfWord", named := ["loop.example/g01380/impl.matrixS", "loop.example/g01380/impl.identity"], apart := false, laid := [("loop.example/g01380/impl.identity", laid_loop_example_g01380_impl_identity), ("loop.example/g01380/impl.matrixS", laid_loop_example_g01380_impl_matrixS)], narrowed := true }
def FnExactMatrixOfWordUptoSaid : Prop := fnExactMatrixOfWordUptoRow.holds Tryd.pinned (OpenSpec.upto fnExactMatrixOfWordSpec)

/-- 'laws.FnExactMatrixOfFree', WHERE WHAT IT READS IS OF BULK AT MOST 1048576: true; the input reads as it did. -/
def fnExactMatrixOfFreeUptoRow : OpenClaim := { program := "ytkeadknbdihkmaadoor", sum := "0d2842cd00018105b846e2c6ccaf4f9b3899cfb95478eb1bebdfc1ba4a169870", func := "loop.example/g01380/laws.FnExactMatrixOfFree", spec := "fnExactMatrixOfFree", named := ["loop.example/g01380/impl.matrixS", "loop.example/g01380/impl.identity"], apart := false, laid := [("loop.example/g01380/impl.identity", laid_loop_example_g01380_impl_identity), ("loop.example/g01380/impl.matrixS", laid_loop_example_g01380_impl_matrixS)], narrowed := true }
def FnExactMatrixOfFreeUptoSaid : Prop := fnExactMatrixOfFreeUptoRow.holds Tryd.pinned (OpenSpec.upto fnExactMatrixOfFreeSpec)

/-- 'laws.FnExactFractionOfPath', WHERE WHAT IT READS IS OF BULK AT MOST 1048576: true; the input reads as it did. -/
def fnExactFractionOfPathUptoRow : OpenClaim := { program := "ytkeadknbdihkmaadoor", sum := "0d2842cd00018105b846e2c6ccaf4f9b3899cfb95478eb1bebdfc1ba4a169870", func := "loop.example/g01380/laws.FnExactFractionOfPath", spec := "fnExactFractionOfPath", named := ["loop.example/g01380/impl.identity"], apart := false, laid := [("loop.example/g01380/impl.identity", laid_loop_example_g01380_impl_identity)], narrowed := true }
def FnExactFractionOfPathUptoSaid : Prop := fnExactFractionOfPathUptoRow.holds Tryd.pinned (OpenSpec.upto fnExactFractionOfPathSpec)

end Rows
end Go.Proofs.YtkeadknbdihkmaaDoor
