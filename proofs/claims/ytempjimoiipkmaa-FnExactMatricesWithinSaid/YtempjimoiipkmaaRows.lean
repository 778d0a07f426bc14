/-
  No cell of these rows narrows 'for every input' (looked for: loops, veiled, ifaces, maps, wideKeys, modest, calm, conditions, laid).
  DERIVED. THE GIVEN ROWS OF THIS SEAT. 3 by the template 'for every input the law returns true; each argument reads behind the call as it read before'; 0 by the template 'total and deterministic' (their statements: YtempjimoiipkmaaTotals.lean).
  GIVEN WITH THE SEED: the statements are not yours to turn. If you find one false, say at which input.
  Laid BY PROGRAM, IN A SANDBOX (cutbox-rows.mjs): the forced cells as the released guide's own fill.sh prints them over the translation 37cffd408b70c566… (all of the seat's roots in one cut). By AI agents, Wed Nov 11 2026. No macro, syntax, notation, axiom, sorry.
-/
import Derived.Test.YtempjimoiipkmaaChecked
import GoSem.Claim
import GoSem.ClaimJoined
import GoSem.ClaimMapViews
import Derived.JoinedTies
import Derived.KernelRfl
namespace Go.Proofs.Ytempjimoiipkmaa
/- THE CELL 'sum', in the pinned program and in every row, IS THE sha256 OF THE DUMP (.gsa) THAT YtempjimoiipkmaaProg.lean LOADS. Nothing in Lean hashes anything: it is a label: what it is worth is what the hold of that sum in a sandbox is worth. -/
noncomputable def Try.pinned : Pinned := { name := "ytempjimoiipkmaa", sum := "37cffd408b70c566c44911de57816fb8c19c2ffcea710fe8b34a13ba8e2d82df", checked := Try.checked }
namespace Rows
def none {H : Type} : Left H := { results := [], args := [] }

/-- 'laws.FnExactIsPositive': WHATEVER THE INPUT: true; the input reads as it did. -/
def fnExactIsPositiveSpec : ChangeSpec := { name := "fnExactIsPositive", fn := fun _ => fun
  | [d] => { results := [.lit (.bool true)], args := [d] }
  | _ => none }
def fnExactIsPositiveRow : OpenClaim := { program := "ytempjimoiipkmaa", sum := "37cffd408b70c566c44911de57816fb8c19c2ffcea710fe8b34a13ba8e2d82df", func := "loop.example/g01380/laws.FnExactIsPositive", spec := "fnExactIsPositive", apart := false }
def FnExactIsPositiveSaid : Prop := fnExactIsPositiveRow.holds Try.pinned (OpenSpec.ofChange fnExactIsPositiveSpec)

/-- ITS FALSE NEIGHBOUR: 'it returns false'. Refute it at one input. -/
def fnExactIsPositiveWrong : ChangeSpec := { name := "fnExactIsPositive", fn := fun _ => fun
  | [d] => { results := [.lit (.bool false)], args := [d] }
  | _ => none }
def FnExactIsPositiveWrongFalsely : Prop := fnExactIsPositiveRow.holds Try.pinned (OpenSpec.ofChange fnExactIsPositiveWrong)

/-- 'laws.FnExactSignBetween': WHATEVER THE INPUT: true; the input reads as it did. -/
def fnExactSignBetweenSpec : ChangeSpec := { name := "fnExactSignBetween", fn := fun _ => fun
  | [d1, d2] => { results := [.lit (.bool true)], args := [d1, d2] }
  | _ => none }
def fnExactSignBetweenRow : OpenClaim := { program := "ytempjimoiipkmaa", sum := "37cffd408b70c566c44911de57816fb8c19c2ffcea710fe8b34a13ba8e2d82df", func := "loop.example/g01380/laws.FnExactSignBetween", spec := "fnExactSignBetween", apart := false }
def FnExactSignBetweenSaid : Prop := fnExactSignBetweenRow.holds Try.pinned (OpenSpec.ofChange fnExactSignBetweenSpec)

/-- ITS FALSE NEIGHBOUR: 'it returns false'. Refute it at one input. -/
def fnExactSignBetweenWrong : ChangeSpec := { name := "fnExactSignBetween", fn := fun _ => fun
  | [d1, d2] => { results := [.lit (.bool false)], args := [d1, d2] }
  | _ => none }
def FnExactSignBetweenWrongFalsely : Prop := fnExactSignBetweenRow.holds Try.pinned (OpenSpec.ofChange fnExactSignBetweenWrong)

/-- 'laws.FnExactMatricesWithin': WHATEVER THE INPUT: true; the input reads as it did. -/
def fnExactMatricesWithinSpec : ChangeSpec := { name := "fnExactMatricesWithin", fn := fun _ => fun
  | [d] => { results := [.lit (.bool true)], args := [d] }
  | _ => none }
def fnExactMatricesWithinRow : OpenClaim := { program := "ytempjimoiipkmaa", sum := "37cffd408b70c566c44911de57816fb8c19c2ffcea710fe8b34a13ba8e2d82df", func := "loop.example/g01380/laws.FnExactMatricesWithin", spec := "fnExactMatricesWithin", apart := false }
def FnExactMatricesWithinSaid : Prop := fnExactMatricesWithinRow.holds Try.pinned (OpenSpec.ofChange fnExactMatricesWithinSpec)

/-- ITS FALSE NEIGHBOUR: 'it returns false'. Refute it at one input. -/
def fnExactMatricesWithinWrong : ChangeSpec := { name := "fnExactMatricesWithin", fn := fun _ => fun
  | [d] => { results := [.lit (.bool false)], args := [d] }
  | _ => none }
def FnExactMatricesWithinWrongFalsely : Prop := fnExactMatricesWithinRow.holds Try.pinned (OpenSpec.ofChange fnExactMatricesWithinWrong)

/- THE SECOND FORM. 'bulk': how many values and letters a reading holds, each counted each time it is reached (what is shared counts as often as it is met; a slice's spare places count too). A statement '..UptoSaid' is the law's where the arguments, and the package variables that the reading takes, are together of bulk at most 1048576: NARROWER than '..Said'. Prove '..Said' where nothing that the law and all that it calls make is longer than what came in: it says more and counts as full. Else prove '..UptoSaid'. A law counts once. -/
mutual
def uptoBulk {H : Type} : DataW H → Nat
  | .lit (.string bytes) => bytes.length + 1
  | .lit _ => 1
  | .nil => 1
  | .ptr d => uptoBulk d + 1
  | .slice elems spare => uptoBulkAll elems + uptoBulkAll spare + 1
  | .agg parts => uptoBulkAll parts + 1
  | .iface _ d => uptoBulk d + 1
  | .map entries => uptoBulkEntries entries + 1
  | .held _ => 1
def uptoBulkAll {H : Type} : List (DataW H) → Nat
  | [] => 0
  | d :: r => uptoBulk d + uptoBulkAll r
def uptoBulkEntries {H : Type} : List (Lit × DataW H) → Nat
  | [] => 0
  | x :: r => uptoBulkEntry x + uptoBulkEntries r
def uptoBulkEntry {H : Type} : Lit × DataW H → Nat
  | (.string bytes, d) => bytes.length + uptoBulk d + 1
  | (_, d) => uptoBulk d + 1
 end
def uptoSmall : (H : Type) → List (DataW H) → Bool := fun _ ds => decide (uptoBulkAll ds ≤ 1048576)
def OpenSpec.upto (s : _root_.Go.ChangeSpec) : _root_.Go.OpenSpec := { _root_.Go.OpenSpec.ofChange s with cond := some uptoSmall }

/-- 'laws.FnExactIsPositive', WHERE WHAT IT READS IS OF BULK AT MOST 1048576: true; the input reads as it did. -/
def fnExactIsPositiveUptoRow : OpenClaim := { program := "ytempjimoiipkmaa", sum := "37cffd408b70c566c44911de57816fb8c19c2ffcea710fe8b34a13ba8e2d82df", func := "loop.example/g01380/laws.FnExactIsPositive", spec := "fnExactIsPositive", apart := false, narrowed := true }
def FnExactIsPositiveUptoSaid : Prop := fnExactIsPositiveUptoRow.holds Try.pinned (OpenSpec.upto fnExactIsPositiveSpec)

/-- 'laws.FnExactSignBetween', WHERE WHAT IT READS IS OF BULK AT MOST 1048576: true; the input reads as it did. -/
def fnExactSignBetweenUptoRow : OpenClaim := { program := "ytempjimoiipkmaa", sum := "37cffd408b70c566c44911de57816fb8c19c2ffcea710fe8b34a13ba8e2d82df", func := "loop.example/g01380/laws.FnExactSignBetween", spec := "fnExactSignBetween", apart := false, narrowed := true }
def FnExactSignBetweenUptoSaid : Prop := fnExactSignBetweenUptoRow.holds Try.pinned (OpenSpec.upto fnExactSignBetweenSpec)

/-- 'laws.FnExactMatricesWithin', WHERE WHAT IT READS IS OF BULK AT MOST 1048576: true; the input reads as it did. -/
def fnExactMatricesWithinUptoRow : OpenClaim := { program := "ytempjimoiipkmaa", sum := "37cffd408b70c566c44911de57816fb8c19c2ffcea710fe8b34a13ba8e2d82df", func := "loop.example/g01380/laws.FnExactMatricesWithin", spec := "fnExactMatricesWithin", apart := false, narrowed := true }
def FnExactMatricesWithinUptoSaid : Prop := fnExactMatricesWithinUptoRow.holds Try.pinned (OpenSpec.upto fnExactMatricesWithinSpec)

end Rows
end Go.Proofs.Ytempjimoiipkmaa
