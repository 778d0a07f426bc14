/- Bytes of a text, as the walk wants them. -/
import Derived.Test.YtfgbmddmmgipnaaDoorBase
namespace Go.Proofs.YtfgbmddmmgipnaaDoor
open Go.ChangeShapes Go.WideShapes Go.ChangeAt Go.RowKit

theorem str_at (s : ByteArray) (k : Nat) (_hk : k < s.size) (hk2 : k < s.data.toList.length) : s.data.toList[k] = s[k] := by
  simp [ByteArray.getElem_eq_getElem_data]
theorem str_len (s : ByteArray) : s.data.toList.length = s.size := Array.length_toList
theorem idx_str (s : ByteArray) (k : Nat) (hk : k < s.size) (w : World) : (Instr.index 9 (.string s) (.int .i64 (k : Int))).run Tryd.prog w = .ok (.int .u8 ((s[k].toNat : Nat) : Int)) w := by
  rw [run_index_string _ _ _ _ _ Tryd.underlying9, dif_pos ⟨by omega, by omega⟩]
  simp
theorem byte_ne {c d : UInt8} (h : c ≠ d) : ((c.toNat : Int) == (d.toNat : Int)) = false := by
  simp only [beq_eq_false_iff_ne, ne_eq]
  intro e
  exact h (UInt8.toNat_inj.1 (by omega))
theorem byte_ne' {c d : UInt8} (h : c ≠ d) : ((c.toNat : Int) != (d.toNat : Int)) = true := by
  simp [bne, byte_ne h]
theorem idx_lit (s : ByteArray) (k : Nat) (n : UInt8) (hk : k < s.size) (h : s[k] = n) (w : World) : (Instr.index 9 (.string s) (.int .i64 (k : Int))).run Tryd.prog w = .ok (.int .u8 (n.toNat : Int)) w := by
  rw [idx_str s k hk, h]
theorem idx_any (s : ByteArray) (k : Nat) (hk : k < s.size) : ∃ x : Int, (∀ w, (Instr.index 9 (.string s) (.int .i64 (k : Int))).run Tryd.prog w = .ok (.int .u8 x) w) ∧ Hid (∀ d : UInt8, s[k] ≠ d → (x == (d.toNat : Int)) = false) :=
  ⟨_, idx_str s k hk, Lib.hid fun _ h => byte_ne h⟩
end Go.Proofs.YtfgbmddmmgipnaaDoor
