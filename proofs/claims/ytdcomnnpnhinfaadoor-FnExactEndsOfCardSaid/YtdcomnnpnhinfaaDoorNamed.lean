/- impl.namedMatrices: contract. -/
import Derived.Test.YtdcomnnpnhinfaaDoorMapM
import Derived.Test.YtdcomnnpnhinfaaDoorMxS
import Derived.Test.YtdcomnnpnhinfaaDoorPA
namespace Go.Proofs.YtdcomnnpnhinfaaDoor
open Go.ChangeShapes Go.WideShapes Go.ChangeAt Go.RowKit

theorem str_keyed : Maps.Keyed Tryd.prog 9 := Maps.string_keyed Tryd.underlying9
theorem str_key (s : ByteArray) (hs : s.size ≤ maxLen) : keyOf Tryd.prog 9 (.string s) = some (.string s.data.toList) := WideMaps.keyOf_string_mk Tryd.underlying9 hs
open Classical in
/-- The matrices with names. -/
noncomputable def namedF (x : Lit) : Option Mat :=
  if x = .string [73] then some ⟨1, 0, 0, 1⟩ else if x = .string [85] then some ⟨1, -1, 1, 0⟩ else if x = .string [76] then some ⟨1, 0, 1, 1⟩ else
  if x = .string [84] then some ⟨1, 1, 0, 1⟩ else if x = .string [83] then some ⟨0, -1, 1, 0⟩ else none

end Go.Proofs.YtdcomnnpnhinfaaDoor
