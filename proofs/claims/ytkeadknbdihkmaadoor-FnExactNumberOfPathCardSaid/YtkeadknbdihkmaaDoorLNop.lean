/- The walk of the law FnExactNumberOfPath. -/
import Derived.Test.YtkeadknbdihkmaaDoorNop
namespace Go.Proofs.YtkeadknbdihkmaaDoor
open Go.ChangeShapes Go.WideShapes Go.ChangeAt Go.RowKit

set_option maxHeartbeats 2000000 in
theorem lawNumberOfPath_of (s : ByteArray) (v k : Int) (hn : s.size ≤ 1048576)
    (hs : ∀ (w : World), Calls Tryd.prog 26 #[.string s] w (RetN v k w))
    (hi : ∀ (w : World), Idn w → Calls Tryd.prog 27 #[.string s] w (RetN v k w)) (w : World) (hid : Idn w) :
    Calls Tryd.prog 6 #[.string s] w fun e w' => e = .returned (.bool true) ∧ Below w.heap.size w w' := by
  have HS := Lib.hid hs
  have HI := Lib.hid hi
  have hn1 : (s.size : Int) ≤ 1048576 := by omega
  clear hs hi
  go_enter Tryd.func6, Tryd.ntmps6
  go_wp2_with fail
  refine (HS.out _).mono ?_
  rintro e w2 ⟨rfl, hb2⟩
  go_wp2_with fail
  refine (HI.out _ (Rd.below hid hb2)).mono ?_
  rintro e w4 ⟨rfl, hb4⟩
  go_wp2
  go_ret
  exact ⟨rfl, by repeat (first | with_reducible exact own_refl _ | with_reducible assumption | with_reducible apply own_alloc | with_reducible apply own_drewN | with_reducible apply own_drew | ((with_reducible refine own_setCell ?_ ?_ _); rotate_left; focus (first | (simp; done) | (simp; omega))) | (with_reducible (refine own_trans ?_ (by assumption))))⟩
set_option maxHeartbeats 1000000 in
theorem lawNumberOfPath_long (s : ByteArray) (hn : ¬ s.size ≤ 1048576) (_hn' : s.size ≤ 9223372036854775807) (w : World) :
    Calls Tryd.prog 6 #[.string s] w fun e w' => e = .returned (.bool true) ∧ Below w.heap.size w w' := by
  have hn1 : (1048576 : Int) < (s.size : Int) := by omega
  go_enter Tryd.func6, Tryd.ntmps6
  go_wp2
  go_ret
  exact ⟨rfl, own_refl _⟩
theorem lawNumberOfPath_walk (s : ByteArray) (hs : s.size ≤ 9223372036854775807) (w : World) (hid : Idn w) :
    Calls Tryd.prog 6 #[.string s] w fun e w' => e = .returned (.bool true) ∧ Below w.heap.size w w' := by
  by_cases h1 : s.size ≤ 1048576
  · by_cases h2 : s.size ≤ 12
    · rcases h3 : stepsOk s.data.toList with _ | _
      · exact lawNumberOfPath_of s _ 2 h1 (fun w => specNop_bad s 2 (by omega) (fun w => specPair_no s h2 h3 w) w) (fun w _ => implNop_bad s 2 (by omega) (fun w => implWop_bad s (fun w => implPair_no s h2 h3 w) w) w) w hid
      · rcases h4 : pathW s.data.toList with ⟨u, v⟩
        have hb := pathW_bd s.data.toList
        have ht := pathW_tree s.data.toList
        rw [h4, str_len] at hb
        rw [h4] at ht
        have hbd := hb.bd h2
        by_cases h5 : u.size + v.size ≤ 400
        · obtain ⟨r, kd, hPA⟩ := PA.any (wordB (u ++ v))
          exact lawNumberOfPath_of s _ kd h1 (fun w => specNop_yes s u v _ rfl h5 r kd hPA (fun w => specPair_yes s h2 h3 u v h4 h5 w) w) (fun w hid => implNop_yes s _ (by rw [ByteArray.size_append]; exact h5) (treeOk_app _ _ ht.1 ht.2) r kd hPA (fun w => implWop_yes s u v hbd h5 (fun w => implPair_yes s h2 h3 u v h4 w) w) w hid) w hid
        · exact lawNumberOfPath_of s _ 3 h1 (fun w => specNop_bad s 3 (by omega) (fun w => specPair_lim s h2 h3 u v h4 h5 w) w) (fun w _ => implNop_bad s 3 (by omega) (fun w => implWop_lim s u v hbd h5 (fun w => implPair_yes s h2 h3 u v h4 w) w) w) w hid
    · exact lawNumberOfPath_of s _ 2 h1 (fun w => specNop_bad s 2 (by omega) (fun w => specPair_long s h2 w) w) (fun w _ => implNop_bad s 2 (by omega) (fun w => implWop_bad s (fun w => implPair_long s h2 w) w) w) w hid
  · exact lawNumberOfPath_long s h1 hs w
end Go.Proofs.YtkeadknbdihkmaaDoor
