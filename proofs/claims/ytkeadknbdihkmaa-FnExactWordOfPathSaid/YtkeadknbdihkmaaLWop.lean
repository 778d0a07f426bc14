/- The walk of the law FnExactWordOfPath. -/
import Derived.Test.YtkeadknbdihkmaaWpS
namespace Go.Proofs.Ytkeadknbdihkmaa
open Go.ChangeShapes Go.WideShapes Go.ChangeAt Go.RowKit

set_option maxHeartbeats 2000000 in
theorem lawWordOfPath_of (s p : ByteArray) (k : Int) (hn : s.size ≤ 1048576)
    (hs : ∀ (w : World), Calls Try.prog 16 #[.string s] w (RetW p k w))
    (hi : ∀ (w : World), Calls Try.prog 17 #[.string s] w (RetW p k w)) (w : World) :
    Calls Try.prog 6 #[.string s] w fun e w' => e = .returned (.bool true) ∧ Below w.heap.size w w' := by
  have HS := Lib.hid hs
  have HI := Lib.hid hi
  have hn1 : (s.size : Int) ≤ 1048576 := by omega
  clear hs hi
  go_enter Try.func6, Try.ntmps6
  go_wp2_with fail
  refine (HS.out _).mono ?_
  rintro e w2 ⟨rfl, hb2⟩
  go_wp2_with fail
  refine (HI.out _).mono ?_
  rintro e w4 ⟨rfl, hb4⟩
  go_wp2
  go_ret
  exact ⟨rfl, by repeat (first | with_reducible exact own_refl _ | with_reducible assumption | with_reducible apply own_alloc | with_reducible apply own_drewN | with_reducible apply own_drew | ((with_reducible refine own_setCell ?_ ?_ _); rotate_left; focus (first | (simp; done) | (simp; omega))) | (with_reducible (refine own_trans ?_ (by assumption))))⟩
set_option maxHeartbeats 1000000 in
theorem lawWordOfPath_long (s : ByteArray) (hn : ¬ s.size ≤ 1048576) (hn' : s.size ≤ 9223372036854775807) (w : World) :
    Calls Try.prog 6 #[.string s] w fun e w' => e = .returned (.bool true) ∧ Below w.heap.size w w' := by
  have hn1 : (1048576 : Int) < (s.size : Int) := by omega
  go_enter Try.func6, Try.ntmps6
  go_wp2
  go_ret
  exact ⟨rfl, own_refl _⟩
theorem lawWordOfPath_walk (s : ByteArray) (hs : s.size ≤ 9223372036854775807) (w : World) :
    Calls Try.prog 6 #[.string s] w fun e w' => e = .returned (.bool true) ∧ Below w.heap.size w w' := by
  by_cases h1 : s.size ≤ 1048576
  · by_cases h2 : s.size ≤ 12
    · rcases h3 : stepsOk s.data.toList with _ | _
      · exact lawWordOfPath_of s _ 2 h1 (fun w => specWop_bad s 2 (fun w => specPair_no s h2 h3 w) w) (fun w => implWop_bad s (fun w => implPair_no s h2 h3 w) w) w
      · rcases h4 : pathW s.data.toList with ⟨u, v⟩
        have hb := pathW_bd s.data.toList
        rw [h4, str_len] at hb
        have hbd := hb.bd h2
        by_cases h5 : u.size + v.size ≤ 400
        · exact lawWordOfPath_of s _ 0 h1 (fun w => specWop_yes s u v h5 (fun w => specPair_yes s h2 h3 u v h4 h5 w) w) (fun w => implWop_yes s u v hbd h5 (fun w => implPair_yes s h2 h3 u v h4 w) w) w
        · exact lawWordOfPath_of s _ 3 h1 (fun w => specWop_bad s 3 (fun w => specPair_lim s h2 h3 u v h4 h5 w) w) (fun w => implWop_lim s u v hbd h5 (fun w => implPair_yes s h2 h3 u v h4 w) w) w
    · exact lawWordOfPath_of s _ 2 h1 (fun w => specWop_bad s 2 (fun w => specPair_long s h2 w) w) (fun w => implWop_bad s (fun w => implPair_long s h2 w) w) w
  · exact lawWordOfPath_long s h1 hs w
end Go.Proofs.Ytkeadknbdihkmaa
