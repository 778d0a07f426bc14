/-
  No cell of these rows narrows 'for every input' (looked for: loops, veiled, ifaces, maps, wideKeys, modest, calm, conditions, laid).
  DERIVED. THE GIVEN ROWS OF THIS SEAT. 8 by the template 'for every input the law returns true; each argument reads behind the call as it read before'; 0 by the template 'total and deterministic' (their statements: YtmijmlngbahaaaaTotals.lean).
  GIVEN WITH THE SEED: the statements are not yours to turn. If you find one false, say at which input.
  Laid BY PROGRAM, IN A SANDBOX (cutbox-rows.mjs): the forced cells as the released guide's own fill.sh prints them over the translation 3f7daf88323ee3de… (all of the seat's roots in one cut). By AI agents, Wed Nov 11 2026. No macro, syntax, notation, axiom, sorry.
-/
import Derived.Test.YtmijmlngbahaaaaChecked
import GoSem.Claim
import GoSem.ClaimJoined
import GoSem.ClaimMapViews
import Derived.JoinedTies
import Derived.KernelRfl
namespace Go.Proofs.Ytmijmlngbahaaaa
/- THE CELL 'sum', in the pinned program and in every row, IS THE sha256 OF THE DUMP (.gsa) THAT YtmijmlngbahaaaaProg.lean LOADS. Nothing in Lean hashes anything: it is a label: what it is worth is what the hold of that sum in a sandbox is worth. -/
noncomputable def Try.pinned : Pinned := { name := "ytmijmlngbahaaaa", sum := "3f7daf88323ee3deea8ec0e6f5c3145bbb400220ecd900b44795f179372a7fd9", checked := Try.checked }
namespace Rows
def none {H : Type} : Left H := { results := [], args := [] }

/-- 'laws.FnExactIsMember': WHATEVER THE INPUT: true; the input reads as it did. -/
def fnExactIsMemberSpec : ChangeSpec := { name := "fnExactIsMember", fn := fun _ => fun
  | [d1, d2, d3] => { results := [.lit (.bool true)], args := [d1, d2, d3] }
  | _ => none }
def fnExactIsMemberRow : OpenClaim := { program := "ytmijmlngbahaaaa", sum := "3f7daf88323ee3deea8ec0e6f5c3145bbb400220ecd900b44795f179372a7fd9", func := "loop.example/g01380/laws.FnExactIsMember", spec := "fnExactIsMember", plainKeys := false, apart := false }
def FnExactIsMemberSaid : Prop := fnExactIsMemberRow.holds Try.pinned (OpenSpec.ofChange fnExactIsMemberSpec)

/-- ITS FALSE NEIGHBOUR: 'it returns false'. Refute it at one input. -/
def fnExactIsMemberWrong : ChangeSpec := { name := "fnExactIsMember", fn := fun _ => fun
  | [d1, d2, d3] => { results := [.lit (.bool false)], args := [d1, d2, d3] }
  | _ => none }
def FnExactIsMemberWrongFalsely : Prop := fnExactIsMemberRow.holds Try.pinned (OpenSpec.ofChange fnExactIsMemberWrong)

/-- 'laws.FnExactIndexOf': WHATEVER THE INPUT: true; the input reads as it did. -/
def fnExactIndexOfSpec : ChangeSpec := { name := "fnExactIndexOf", fn := fun _ => fun
  | [d1, d2] => { results := [.lit (.bool true)], args := [d1, d2] }
  | _ => none }
def fnExactIndexOfRow : OpenClaim := { program := "ytmijmlngbahaaaa", sum := "3f7daf88323ee3deea8ec0e6f5c3145bbb400220ecd900b44795f179372a7fd9", func := "loop.example/g01380/laws.FnExactIndexOf", spec := "fnExactIndexOf", plainKeys := false, apart := false }
def FnExactIndexOfSaid : Prop := fnExactIndexOfRow.holds Try.pinned (OpenSpec.ofChange fnExactIndexOfSpec)

/-- ITS FALSE NEIGHBOUR: 'it returns false'. Refute it at one input. -/
def fnExactIndexOfWrong : ChangeSpec := { name := "fnExactIndexOf", fn := fun _ => fun
  | [d1, d2] => { results := [.lit (.bool false)], args := [d1, d2] }
  | _ => none }
def FnExactIndexOfWrongFalsely : Prop := fnExactIndexOfRow.holds Try.pinned (OpenSpec.ofChange fnExactIndexOfWrong)

/-- 'laws.FnExactNormalPair': WHATEVER THE INPUT: true; the input reads as it did. -/
def fnExactNormalPairSpec : ChangeSpec := { name := "fnExactNormalPair", fn := fun _ => fun
  | [d1, d2, d3] => { results := [.lit (.bool true)], args := [d1, d2, d3] }
  | _ => none }
def fnExactNormalPairRow : OpenClaim := { program := "ytmijmlngbahaaaa", sum := "3f7daf88323ee3deea8ec0e6f5c3145bbb400220ecd900b44795f179372a7fd9", func := "loop.example/g01380/laws.FnExactNormalPair", spec := "fnExactNormalPair", plainKeys := false, apart := false }
def FnExactNormalPairSaid : Prop := fnExactNormalPairRow.holds Try.pinned (OpenSpec.ofChange fnExactNormalPairSpec)

/-- ITS FALSE NEIGHBOUR: 'it returns false'. Refute it at one input. -/
def fnExactNormalPairWrong : ChangeSpec := { name := "fnExactNormalPair", fn := fun _ => fun
  | [d1, d2, d3] => { results := [.lit (.bool false)], args := [d1, d2, d3] }
  | _ => none }
def FnExactNormalPairWrongFalsely : Prop := fnExactNormalPairRow.holds Try.pinned (OpenSpec.ofChange fnExactNormalPairWrong)

/-- 'laws.FnExactLineOf': WHATEVER THE INPUT: true; the input reads as it did. -/
def fnExactLineOfSpec : ChangeSpec := { name := "fnExactLineOf", fn := fun _ => fun
  | [d] => { results := [.lit (.bool true)], args := [d] }
  | _ => none }
def fnExactLineOfRow : OpenClaim := { program := "ytmijmlngbahaaaa", sum := "3f7daf88323ee3deea8ec0e6f5c3145bbb400220ecd900b44795f179372a7fd9", func := "loop.example/g01380/laws.FnExactLineOf", spec := "fnExactLineOf", unfollowed := true, recurses := true, plainKeys := false, apart := false }
def FnExactLineOfSaid : Prop := fnExactLineOfRow.holds Try.pinned (OpenSpec.ofChange fnExactLineOfSpec)

/-- ITS FALSE NEIGHBOUR: 'it returns false'. Refute it at one input. -/
def fnExactLineOfWrong : ChangeSpec := { name := "fnExactLineOf", fn := fun _ => fun
  | [d] => { results := [.lit (.bool false)], args := [d] }
  | _ => none }
def FnExactLineOfWrongFalsely : Prop := fnExactLineOfRow.holds Try.pinned (OpenSpec.ofChange fnExactLineOfWrong)

/-- 'laws.FnExactCosetOf': WHATEVER THE INPUT: true; the input reads as it did. -/
def fnExactCosetOfSpec : ChangeSpec := { name := "fnExactCosetOf", fn := fun _ => fun
  | [d1, d2] => { results := [.lit (.bool true)], args := [d1, d2] }
  | _ => none }
def fnExactCosetOfRow : OpenClaim := { program := "ytmijmlngbahaaaa", sum := "3f7daf88323ee3deea8ec0e6f5c3145bbb400220ecd900b44795f179372a7fd9", func := "loop.example/g01380/laws.FnExactCosetOf", spec := "fnExactCosetOf", unfollowed := true, recurses := true, plainKeys := false, apart := false }
def FnExactCosetOfSaid : Prop := fnExactCosetOfRow.holds Try.pinned (OpenSpec.ofChange fnExactCosetOfSpec)

/-- ITS FALSE NEIGHBOUR: 'it returns false'. Refute it at one input. -/
def fnExactCosetOfWrong : ChangeSpec := { name := "fnExactCosetOf", fn := fun _ => fun
  | [d1, d2] => { results := [.lit (.bool false)], args := [d1, d2] }
  | _ => none }
def FnExactCosetOfWrongFalsely : Prop := fnExactCosetOfRow.holds Try.pinned (OpenSpec.ofChange fnExactCosetOfWrong)

/-- 'laws.FnExactCuspsOf': WHATEVER THE INPUT: true; the input reads as it did. -/
def fnExactCuspsOfSpec : ChangeSpec := { name := "fnExactCuspsOf", fn := fun _ => fun
  | [d] => { results := [.lit (.bool true)], args := [d] }
  | _ => none }
def fnExactCuspsOfRow : OpenClaim := { program := "ytmijmlngbahaaaa", sum := "3f7daf88323ee3deea8ec0e6f5c3145bbb400220ecd900b44795f179372a7fd9", func := "loop.example/g01380/laws.FnExactCuspsOf", spec := "fnExactCuspsOf", unfollowed := true, recurses := true, plainKeys := false, apart := false }
def FnExactCuspsOfSaid : Prop := fnExactCuspsOfRow.holds Try.pinned (OpenSpec.ofChange fnExactCuspsOfSpec)

/-- ITS FALSE NEIGHBOUR: 'it returns false'. Refute it at one input. -/
def fnExactCuspsOfWrong : ChangeSpec := { name := "fnExactCuspsOf", fn := fun _ => fun
  | [d] => { results := [.lit (.bool false)], args := [d] }
  | _ => none }
def FnExactCuspsOfWrongFalsely : Prop := fnExactCuspsOfRow.holds Try.pinned (OpenSpec.ofChange fnExactCuspsOfWrong)

/-- 'laws.FnExactCountCusps': WHATEVER THE INPUT: true; the input reads as it did. -/
def fnExactCountCuspsSpec : ChangeSpec := { name := "fnExactCountCusps", fn := fun _ => fun
  | [d] => { results := [.lit (.bool true)], args := [d] }
  | _ => none }
def fnExactCountCuspsRow : OpenClaim := { program := "ytmijmlngbahaaaa", sum := "3f7daf88323ee3deea8ec0e6f5c3145bbb400220ecd900b44795f179372a7fd9", func := "loop.example/g01380/laws.FnExactCountCusps", spec := "fnExactCountCusps", plainKeys := false, apart := false }
def FnExactCountCuspsSaid : Prop := fnExactCountCuspsRow.holds Try.pinned (OpenSpec.ofChange fnExactCountCuspsSpec)

/-- ITS FALSE NEIGHBOUR: 'it returns false'. Refute it at one input. -/
def fnExactCountCuspsWrong : ChangeSpec := { name := "fnExactCountCusps", fn := fun _ => fun
  | [d] => { results := [.lit (.bool false)], args := [d] }
  | _ => none }
def FnExactCountCuspsWrongFalsely : Prop := fnExactCountCuspsRow.holds Try.pinned (OpenSpec.ofChange fnExactCountCuspsWrong)

/-- 'laws.FnExactRestsOf': WHATEVER THE INPUT: true; the input reads as it did. -/
def fnExactRestsOfSpec : ChangeSpec := { name := "fnExactRestsOf", fn := fun _ => fun
  | [d1, d2] => { results := [.lit (.bool true)], args := [d1, d2] }
  | _ => none }
def fnExactRestsOfRow : OpenClaim := { program := "ytmijmlngbahaaaa", sum := "3f7daf88323ee3deea8ec0e6f5c3145bbb400220ecd900b44795f179372a7fd9", func := "loop.example/g01380/laws.FnExactRestsOf", spec := "fnExactRestsOf", plainKeys := false, apart := false }
def FnExactRestsOfSaid : Prop := fnExactRestsOfRow.holds Try.pinned (OpenSpec.ofChange fnExactRestsOfSpec)

/-- ITS FALSE NEIGHBOUR: 'it returns false'. Refute it at one input. -/
def fnExactRestsOfWrong : ChangeSpec := { name := "fnExactRestsOf", fn := fun _ => fun
  | [d1, d2] => { results := [.lit (.bool false)], args := [d1, d2] }
  | _ => none }
def FnExactRestsOfWrongFalsely : Prop := fnExactRestsOfRow.holds Try.pinned (OpenSpec.ofChange fnExactRestsOfWrong)

/- THE SECOND FORM. 'bulk': how many values and letters a reading holds, each counted each time it is reached (what is shared counts as often as it is met; a slice's spare places count too). A statement '..UptoSaid' is the law's where the arguments, and the package variables that the reading takes, are together of bulk at most 1048576: NARROWER than '..Said'. Prove '..Said' where nothing that the law and all that it calls make is longer than what came in: it says more and counts as full. Else prove '..UptoSaid'. A law counts once. -/
mutual
def uptoBulk {H : Type} : DataW H → Nat
  | .lit (.string bytes) => bytes.length + 1
  | .lit _ => 1
  | .nil => 1
  | .ptr d => uptoBulk d + 1
  | .slice elems spare => uptoBulkAll elems + uptoBulkAll spare + 1
  | .agg parts => uptoBulkAll parts + 1
  | .iface _ d => uptoBulk d + 1
  | .map entries => uptoBulkEntries entries + 1
  | .held _ => 1
def uptoBulkAll {H : Type} : List (DataW H) → Nat
  | [] => 0
  | d :: r => uptoBulk d + uptoBulkAll r
def uptoBulkEntries {H : Type} : List (Lit × DataW H) → Nat
  | [] => 0
  | x :: r => uptoBulkEntry x + uptoBulkEntries r
def uptoBulkEntry {H : Type} : Lit × DataW H → Nat
  | (.string bytes, d) => bytes.length + uptoBulk d + 1
  | (_, d) => uptoBulk d + 1
 end
def uptoSmall : (H : Type) → List (DataW H) → Bool := fun _ ds => decide (uptoBulkAll ds ≤ 1048576)
def OpenSpec.upto (s : _root_.Go.ChangeSpec) : _root_.Go.OpenSpec := { _root_.Go.OpenSpec.ofChange s with cond := some uptoSmall }

/-- 'laws.FnExactIsMember', WHERE WHAT IT READS IS OF BULK AT MOST 1048576: true; the input reads as it did. -/
def fnExactIsMemberUptoRow : OpenClaim := { program := "ytmijmlngbahaaaa", sum := "3f7daf88323ee3deea8ec0e6f5c3145bbb400220ecd900b44795f179372a7fd9", func := "loop.example/g01380/laws.FnExactIsMember", spec := "fnExactIsMember", plainKeys := false, apart := false, narrowed := true }
def FnExactIsMemberUptoSaid : Prop := fnExactIsMemberUptoRow.holds Try.pinned (OpenSpec.upto fnExactIsMemberSpec)

/-- 'laws.FnExactIndexOf', WHERE WHAT IT READS IS OF BULK AT MOST 1048576: true; the input reads as it did. -/
def fnExactIndexOfUptoRow : OpenClaim := { program := "ytmijmlngbahaaaa", sum := "3f7daf88323ee3deea8ec0e6f5c3145bbb400220ecd900b44795f179372a7fd9", func := "loop.example/g01380/laws.FnExactIndexOf", spec := "fnExactIndexOf", plainKeys := false, apart := false, narrowed := true }
def FnExactIndexOfUptoSaid : Prop := fnExactIndexOfUptoRow.holds Try.pinned (OpenSpec.upto fnExactIndexOfSpec)

/-- 'laws.FnExactNormalPair', WHERE WHAT IT READS IS OF BULK AT MOST 1048576: true; the input reads as it did. -/
def fnExactNormalPairUptoRow : OpenClaim := { program := "ytmijmlngbahaaaa", sum := "3f7daf88323ee3deea8ec0e6f5c3145bbb400220ecd900b44795f179372a7fd9", func := "loop.example/g01380/laws.FnExactNormalPair", spec := "fnExactNormalPair", plainKeys := false, apart := false, narrowed := true }
def FnExactNormalPairUptoSaid : Prop := fnExactNormalPairUptoRow.holds Try.pinned (OpenSpec.upto fnExactNormalPairSpec)

/-- 'laws.FnExactLineOf', WHERE WHAT IT READS IS OF BULK AT MOST 1048576: true; the input reads as it did. -/
def fnExactLineOfUptoRow : OpenClaim := { program := "ytmijmlngbahaaaa", sum := "3f7daf88323ee3deea8ec0e6f5c3145bbb400220ecd900b44795f179372a7fd9", func := "loop.example/g01380/laws.FnExactLineOf", spec := "fnExactLineOf", unfollowed := true, recurses := true, plainKeys := false, apart := false, narrowed := true }
def FnExactLineOfUptoSaid : Prop := fnExactLineOfUptoRow.holds Try.pinned (OpenSpec.upto fnExactLineOfSpec)

/-- 'laws.FnExactCosetOf', WHERE WHAT IT READS IS OF BULK AT MOST 1048576: true; the input reads as it did. -/
def fnExactCosetOfUptoRow : OpenClaim := { program := "ytmijmlngbahaaaa", sum := "3f7daf88323ee3deea8ec0e6f5c3145bbb400220ecd900b44795f179372a7fd9", func := "loop.example/g01380/laws.FnExactCosetOf", spec := "fnExactCosetOf", unfollowed := true, recurses := true, plainKeys := false, apart := false, narrowed := true }
def FnExactCosetOfUptoSaid : Prop := fnExactCosetOfUptoRow.holds Try.pinned (OpenSpec.upto fnExactCosetOfSpec)

/-- 'laws.FnExactCuspsOf', WHERE WHAT IT READS IS OF BULK AT MOST 1048576: true; the input reads as it did. -/
def fnExactCuspsOfUptoRow : OpenClaim := { program := "ytmijmlngbahaaaa", sum := "3f7daf88323ee3deea8ec0e6f5c3145bbb400220ecd900b44795f179372a7fd9", func := "loop.example/g01380/laws.FnExactCuspsOf", spec := "fnExactCuspsOf", unfollowed := true, recurses := true, plainKeys := false, apart := false, narrowed := true }
def FnExactCuspsOfUptoSaid : Prop := fnExactCuspsOfUptoRow.holds Try.pinned (OpenSpec.upto fnExactCuspsOfSpec)

/-- 'laws.FnExactCountCusps', WHERE WHAT IT READS IS OF BULK AT MOST 1048576: true; the input reads as it did. -/
def fnExactCountCuspsUptoRow : OpenClaim := { program := "ytmijmlngbahaaaa", sum := "3f7daf88323ee3deea8ec0e6f5c3145bbb400220ecd900b44795f179372a7fd9", func := "loop.example/g01380/laws.FnExactCountCusps", spec := "fnExactCountCusps", plainKeys := false, apart := false, narrowed := true }
def FnExactCountCuspsUptoSaid : Prop := fnExactCountCuspsUptoRow.holds Try.pinned (OpenSpec.upto fnExactCountCuspsSpec)

/-- 'laws.FnExactRestsOf', WHERE WHAT IT READS IS OF BULK AT MOST 1048576: true; the input reads as it did. -/
def fnExactRestsOfUptoRow : OpenClaim := { program := "ytmijmlngbahaaaa", sum := "3f7daf88323ee3deea8ec0e6f5c3145bbb400220ecd900b44795f179372a7fd9", func := "loop.example/g01380/laws.FnExactRestsOf", spec := "fnExactRestsOf", plainKeys := false, apart := false, narrowed := true }
def FnExactRestsOfUptoSaid : Prop := fnExactRestsOfUptoRow.holds Try.pinned (OpenSpec.upto fnExactRestsOfSpec)

end Rows
end Go.Proofs.Ytmijmlngbahaaaa
