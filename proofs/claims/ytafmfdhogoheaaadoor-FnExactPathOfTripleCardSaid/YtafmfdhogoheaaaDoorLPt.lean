/- The walk of the law FnExactPathOfTriple. -/
import Derived.Test.YtafmfdhogoheaaaDoorLwPathOfTriple
namespace Go.Proofs.YtafmfdhogoheaaaDoor
open Go.ChangeShapes Go.WideShapes Go.ChangeAt Go.RowKit

theorem lawPathOfTriple_walk (a b c : Int) (_ : I64 a) (_ : I64 b) (_ : I64 c) (w : World) (hid : FtT w) :
    Calls Tryd.prog 5 #[(.agg #[.int .i64 a, .int .i64 b, .int .i64 c])] w fun e w' => e = .returned (.bool true) ∧ Below w.heap.size w w' := by
  rcases h : isT a b c with _ | _
  · exact lawPathOfTriple_of a b c ⟨#[]⟩ 1 (fun w => specPt_no a b c h w) (fun w _ => implPt_no a b c h w) w hid
  · obtain ⟨n, l, hd, hn⟩ := Dn.ex c.toNat a b c h (Nat.le_refl _)
    have hw := hd.way h
    by_cases h2 : n < 2
    · have h5 : c < 5 := hw.five.2 h2
      exact lawPathOfTriple_of a b c ⟨#[]⟩ 4 (fun w => specPt_short a b c h h5 w) (fun w hid => implPt_short a b c h n l hd h2 w hid) w hid
    · by_cases h14 : 14 < n
      · exact lawPathOfTriple_of a b c ⟨#[]⟩ 3 (fun w => specPt_long a b c h n l hd h14 w) (fun w hid => implPt_long a b c h n l hd h14 hw.lenb w hid) w hid
      · obtain ⟨m, rfl⟩ : ∃ m, n = m + 2 := ⟨n - 2, by omega⟩
        exact lawPathOfTriple_of a b c _ 0 (fun w => specPt_yes a b c h (m + 2) l hd (by omega) w) (fun w hid => implPt_yes a b c h m l hd (by omega) w hid) w hid
end Go.Proofs.YtafmfdhogoheaaaDoor
