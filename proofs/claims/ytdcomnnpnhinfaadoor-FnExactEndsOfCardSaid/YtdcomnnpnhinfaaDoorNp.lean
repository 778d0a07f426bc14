/- NormalPair: contracts of both sides. -/
import Derived.Test.YtdcomnnpnhinfaaDoorNorS
import Derived.OwnWalk
namespace Go.Proofs.YtdcomnnpnhinfaaDoor
open Go.ChangeShapes Go.WideShapes Go.ChangeAt Go.RowKit

theorem isLevel_is (r : Bool) (n : Int) (hr : inR n 1 60 = r) (w : World) : Calls Tryd.prog 32 #[(.int .i64 n)] w fun e w' => e = .returned (.bool r) ∧ w = w' := by
  subst hr
  by_cases a : 1 ≤ n
  · by_cases b : n ≤ 60
    · go_enter Tryd.func32, Tryd.ntmps32
      go_wp2
      go_ret
      exact ⟨by simp [inR, a, b], rfl⟩
    · go_enter Tryd.func32, Tryd.ntmps32
      go_wp2
      go_ret
      exact ⟨by simp [inR, a, b], rfl⟩
  · go_enter Tryd.func32, Tryd.ntmps32
    go_wp2
    go_ret
    exact ⟨by simp [inR]; omega, rfl⟩
theorem isPair_is (r : Bool) (n c d : Int) (hr : isP n c d = r) (hn : Mid n) (hc : Ent c) (hd : Ent d) (w : World) :
    Calls Tryd.prog 90 #[(.int .i64 n), (.int .i64 c), (.int .i64 d)] w fun e w' => e = .returned (.bool r) ∧ Below w.heap.size w w' := by
  obtain ⟨c1, c2⟩ := hc
  obtain ⟨d1, d2⟩ := hd
  refine hr ▸ isPair_any n c d hn (by unfold Mid; omega) (by unfold Mid; omega) ?_ w
  have hg : (Int.gcd c d : Int) ≤ 1000000000 := by
    rcases (show c = 0 ∨ c ≠ 0 by omega) with h0 | h0
    · subst h0
      rw [Int.gcd_zero_left]
      omega
    · have := Int.le_of_dvd (a := (Int.gcd c d : Int)) (b := (c.natAbs : Int)) (by omega) (by rw [Int.dvd_natAbs]; exact Int.gcd_dvd_left c d)
      omega
  unfold Mid
  omega
def inNp (n c d : Int) : Bool := inR n 1 60 && (inW c 1000000000 && inW d 1000000000)
theorem rst_i64 {x : Int} (h : Ent x) : I64 x := by unfold Ent at h; unfold I64; omega
end Go.Proofs.YtdcomnnpnhinfaaDoor
