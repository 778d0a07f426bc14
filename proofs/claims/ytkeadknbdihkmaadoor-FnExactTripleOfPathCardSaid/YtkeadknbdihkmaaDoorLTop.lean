/- The walk of the law FnExactTripleOfPath. -/
import Derived.Test.YtkeadknbdihkmaaDoorLoTripleOfPath
namespace Go.Proofs.YtkeadknbdihkmaaDoor
open Go.ChangeShapes Go.WideShapes Go.ChangeAt Go.RowKit

theorem ok_bd {m : Mat} (h : m.ok = true) : Bd m.b := by
  obtain ⟨_, ⟨_, _⟩, _, _⟩ := Mat.ok_ent h
  constructor <;> omega
theorem lawTripleOfPath_walk (s : ByteArray) (hs : s.size ≤ 9223372036854775807) (w : World) (hid : Idn w) :
    Calls Tryd.prog 7 #[.string s] w fun e w' => e = .returned (.bool true) ∧ Below w.heap.size w w' := by
  by_cases h1 : s.size ≤ 1048576
  · by_cases h2 : s.size ≤ 12
    · rcases h3 : stepsOk s.data.toList with _ | _
      · exact lawTripleOfPath_of s 0 0 0 2 h1 (fun w => specTop s 0 0 0 2 (fun w => l09Triple_bad s 2 (by omega) (fun w => specPair_no s h2 h3 w) w) w) (fun w hid => implTop_bad s 0 2 (by omega) (fun w _ => implNop_bad s 2 (by omega) (fun w => implWop_bad s (fun w => implPair_no s h2 h3 w) w) w) w hid) w hid
      · rcases h4 : pathW s.data.toList with ⟨u, v⟩
        have hb := pathW_bd s.data.toList
        have ht := pathW_tree s.data.toList
        rw [h4, str_len] at hb
        rw [h4] at ht
        have hbd := hb.bd h2
        by_cases h5 : u.size + v.size ≤ 400
        · obtain ⟨r, kd, hPA⟩ := PA.any (wordB (u ++ v))
          obtain ⟨x, k1, hx⟩ := PA.any (wordB u)
          obtain ⟨y, k2, hy⟩ := PA.any (wordB v)
          obtain ⟨ok0, hk⟩ := PA_word hPA
          have hz : (u ++ v).size ≤ 400 := by rw [ByteArray.size_append]; exact h5
          have hcc : ¬ 9223372036854775807 < u.size + v.size := by omega
          have hN : ∀ w, Idn w → Calls Tryd.prog 27 #[.string s] w (RetN r.b kd w) := fun w hid => implNop_yes s _ hz (treeOk_app _ _ ht.1 ht.2) r kd hPA (fun w => implWop_yes s u v hbd h5 (fun w => implPair_yes s h2 h3 u v h4 w) w) w hid
          have hP : ∀ w, Calls Tryd.prog 53 #[.string s] w (RetP u v 0 w) := fun w => specPair_yes s h2 h3 u v h4 h5 w
          have hM : ∀ w, Calls Tryd.prog 49 #[.string (u ++ v)] w (RetM r kd w) := fun w => l09Matrix_any _ (by omega) r kd hPA w
          rcases hk with rfl | ⟨rfl, _⟩
          · exact lawTripleOfPath_of s _ _ _ 0 h1
              (fun w => specTop s _ _ _ 0 (fun w => l09Triple_yes s u v _ rfl hcc r x y k1 k2 _ _ _ (ok_bd ok0) (ok_bd (PA_word hx).1) (ok_bd (PA_word hy).1) rfl rfl rfl hP hM (fun w => l09Matrix_any u (by omega) x k1 hx w) (fun w => l09Matrix_any v (by omega) y k2 hy w) w) w)
              (fun w hid => implTop_yes s u v r.b x.b y.b k1 k2 _ _ _ rfl rfl rfl hN (fun w => implPair_yes s h2 h3 u v h4 w) (fun w hid => numW u (by omega) ht.1 x k1 hx w hid) (fun w hid => numW v (by omega) ht.2 y k2 hy w hid) w hid) w hid
          · exact lawTripleOfPath_of s 0 0 0 3 h1 (fun w => specTop s 0 0 0 3 (fun w => l09Triple_lim s u v _ rfl hcc r 3 (by omega) hP hM w) w) (fun w hid => implTop_bad s _ 3 (by omega) hN w hid) w hid
        · exact lawTripleOfPath_of s 0 0 0 3 h1 (fun w => specTop s 0 0 0 3 (fun w => l09Triple_bad s 3 (by omega) (fun w => specPair_lim s h2 h3 u v h4 h5 w) w) w) (fun w hid => implTop_bad s 0 3 (by omega) (fun w _ => implNop_bad s 3 (by omega) (fun w => implWop_lim s u v hbd h5 (fun w => implPair_yes s h2 h3 u v h4 w) w) w) w hid) w hid
    · exact lawTripleOfPath_of s 0 0 0 2 h1 (fun w => specTop s 0 0 0 2 (fun w => l09Triple_bad s 2 (by omega) (fun w => specPair_long s h2 w) w) w) (fun w hid => implTop_bad s 0 2 (by omega) (fun w _ => implNop_bad s 2 (by omega) (fun w => implWop_bad s (fun w => implPair_long s h2 w) w) w) w hid) w hid
  · exact lawTripleOfPath_long s h1 hs w
end Go.Proofs.YtkeadknbdihkmaaDoor
