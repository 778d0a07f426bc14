/- spec.l01Dec: contract. -/
import Derived.Test.YtfgbmddmmgipnaaDoorBase
import Derived.Test.YtfgbmddmmgipnaaDoorShg
import Derived.Laws.IdiomStrings
import Derived.Lib.ItoaLen
namespace Go.Proofs.YtfgbmddmmgipnaaDoor
open Go.ChangeShapes Go.WideShapes Go.ChangeAt Go.RowKit

theorem conv1 (x : Int) (c : UInt8) (hx : x = (c.toNat : Int)) (W : World) (g : Nat) (h : W.cell? ⟨g, 0, none⟩ = some (.int .u8 x)) : (convert 63 9 (.slice (some ⟨g, 0, none⟩) 1 1)).run Tryd.prog W = .ok (.string ⟨#[c]⟩) W := by
  have := run_convert_bytes_back (P := Tryd.prog) W 63 9 5 ⟨g, 0, none⟩ 1 [c] Tryd.underlying63 Tryd.underlying5 Tryd.underlying9 (fun j hj => by
    obtain rfl : j = 0 := by simp at hj; omega
    rw [show (Addr.add ⟨g, 0, none⟩ 0 : Addr) = ⟨g, 0, none⟩ from rfl, h, hx]
    rfl)
  exact this
theorem dgt (n : Int) (h0 : 0 ≤ n) (h1 : n < 10) : 48 + n = ((UInt8.ofNat (48 + n.toNat)).toNat : Int) := by
  rw [UInt8.toNat_ofNat_of_lt' (by simp [UInt8.size]; omega)]
  omega
theorem itoa_dgt (n : Int) (h0 : 10 ≤ n) : Lib.decDigits n.toNat = Lib.decDigits (n / 10).toNat ++ [UInt8.ofNat (48 + (n % 10).toNat)] := by
  rw [Lib.decDigits, dif_neg (by omega), show n.toNat / 10 = (n / 10).toNat by omega, show n.toNat % 10 = (n % 10).toNat by omega]
theorem dec_len (n : Int) (h0 : 0 ≤ n) (h1 : n ≤ 9223372036854775807) : (Lib.decDigits n.toNat).length ≤ 21 := by
  have := Lib.itoa_length_le n (by omega) h1
  unfold Lib.itoa at this
  rw [if_neg (by omega)] at this
  exact this
end Go.Proofs.YtfgbmddmmgipnaaDoor
