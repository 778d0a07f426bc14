/- Texts of matrices and fractions: the model's side. -/
import Derived.Test.YtfgbmddmmgipnaaDoorDec
import Derived.Test.YtfgbmddmmgipnaaDoorA
import Derived.Test.YtfgbmddmmgipnaaDoorIsF
namespace Go.Proofs.YtfgbmddmmgipnaaDoor
open Go.ChangeShapes Go.WideShapes Go.ChangeAt Go.RowKit

/-- a number's text -/
def itoaB (n : Int) : ByteArray := ⟨(Lib.itoa n).toArray⟩
theorem itoaB_size {n : Int} (h : Ent n) : (itoaB n).size ≤ 21 := by
  unfold Ent at h
  rw [itoaB, Lib.size_eq]
  exact Lib.itoa_length_le n (by omega) (by omega)
/-- the text of four numbers, of two -/
def text4 (a b c d : Int) : ByteArray := itoaB a ++ ⟨#[44]⟩ ++ itoaB b ++ ⟨#[44]⟩ ++ itoaB c ++ ⟨#[44]⟩ ++ itoaB d
def text2 (a b : Int) : ByteArray := itoaB a ++ ⟨#[47]⟩ ++ itoaB b
end Go.Proofs.YtfgbmddmmgipnaaDoor
