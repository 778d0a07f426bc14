/- All matrices with small numbers, in order: the flat list. -/
import Derived.Test.YtmlbbhhjjepmkaaA
namespace Go.Proofs.Ytmlbbhhjjepmkaa
open Go.ChangeShapes Go.WideShapes Go.ChangeAt Go.RowKit

/-- the numbers of one matrix, if it is one -/
def one4 (a b c d : Int) : List Int := if a * d - b * c = 1 then [a, b, c, d] else []
/-- with the first k of the last numbers from lo on -/
def dl (lo a b c : Int) : Nat → List Int
  | 0 => []
  | k + 1 => dl lo a b c k ++ one4 a b c (lo + k)
def cl (lo : Int) (N : Nat) (a b : Int) : Nat → List Int
  | 0 => []
  | k + 1 => cl lo N a b k ++ dl lo a b (lo + k) N
def bl (lo : Int) (N : Nat) (a : Int) : Nat → List Int
  | 0 => []
  | k + 1 => bl lo N a k ++ cl lo N a (lo + k) N
def al (lo : Int) (N : Nat) : Nat → List Int
  | 0 => []
  | k + 1 => al lo N k ++ bl lo N (lo + k) N
end Go.Proofs.Ytmlbbhhjjepmkaa
