/- Contracts of the greatest common divisor. -/
import Derived.Test.YtdcomnnpnhinfaaDoorAbs
namespace Go.Proofs.YtdcomnnpnhinfaaDoor
open Go.ChangeShapes Go.WideShapes Go.ChangeAt Go.RowKit

/-- a number far enough from the ends of int64 -/
def Mid (x : Int) : Prop := -4000000000000000000 ≤ x ∧ x ≤ 4000000000000000000
theorem gcd_step (a b : Int) : Int.gcd b (a.tmod b) = Int.gcd a b := by
  unfold Int.gcd
  rw [Int.natAbs_tmod, Nat.gcd_comm, ← Nat.gcd_rec, Nat.gcd_comm]
theorem tmod_mid {a b : Int} (hb : b ≠ 0) (hm : Mid b) : Mid (a.tmod b) ∧ (a.tmod b).natAbs < b.natAbs := by
  have h3 : (a.tmod b).natAbs = a.natAbs % b.natAbs := Int.natAbs_tmod a b
  have h4 : a.natAbs % b.natAbs < b.natAbs := Nat.mod_lt _ (by omega)
  unfold Mid at *
  omega

set_option maxHeartbeats 1000000 in
theorem commonDivisor_any (x y : Int) (hx : Mid x) (hy : Mid y) (w : World) :
    Calls Tryd.prog 88 #[(.int .i64 x), (.int .i64 y)] w fun e w' => e = .returned (.int .i64 ((Int.gcd x y : Int))) ∧ Below w.heap.size w w' := by
  go_enter Tryd.func88, Tryd.ntmps88
  go_wp2
  go_loopw [0, 1] (fun p q wr => ∃ a b : Int, p = (.int .i64 a) ∧ q = (.int .i64 b) ∧ Mid a ∧ Mid b ∧ Int.gcd a b = Int.gcd x y ∧ Below w.heap.size w wr) (fun _ q _ => (intOf q).natAbs)
  case atStart => exact ⟨x, y, rfl, rfl, hx, hy, rfl, own_refl _⟩
  case round =>
    obtain ⟨a, b, rfl, rfl, ha, hb, hg, T⟩ := hrel
    have HG := Lib.hid hg
    clear hg
    by_cases h0 : b = 0
    · have HE : Hid ((a.natAbs : Int) = (Int.gcd x y : Int)) := by
        have := HG.out
        rw [h0, Int.gcd_zero_right] at this
        exact congrArg _ this
      have h0' : (b != 0) = false := by simp [h0]
      obtain ⟨_, _⟩ := ha
      clear h0
      go_wp2_with (go_at_call 103; refine (absolute_any _ (by omega) (by omega) _).mono ?_; rintro e w3 ⟨rfl, rfl⟩)
      go_ret
      exact ⟨ret_int HE.out, T⟩
    · obtain ⟨hm, hlt⟩ := tmod_mid (a := a) h0 hb
      have HS := Lib.hid ((gcd_step a b).trans HG.out)
      have HM := Lib.hid hm
      have h0' : (b != 0) = true := by simp [h0]
      have h0'' : (b == 0) = false := by simp [h0]
      have hw : IntKind.i64.wrap (a.tmod b) = a.tmod b := IntWalk.i64_in _ (by unfold Mid at hm; omega)
      obtain ⟨_, _⟩ := ha
      have HB := Lib.hid hb
      obtain ⟨_, _⟩ := hb
      clear hm h0
      go_wp2
      go_quiet (fail)
      clear hw
      go_wp2
      go_roundw
      case rel => exact ⟨b, a.tmod b, rfl, rfl, HB.out, HM.out, HS.out, below_drewN' T _⟩
      case measure => simpa [intOf] using hlt
end Go.Proofs.YtdcomnnpnhinfaaDoor
