/- spec.l01Split: contract. -/
import Derived.Test.YtfgbmddmmgipnaaDoorSgn
import Derived.Test.YtfgbmddmmgipnaaDoorJoin
namespace Go.Proofs.YtfgbmddmmgipnaaDoor
open Go.ChangeShapes Go.WideShapes Go.ChangeAt Go.RowKit

def toL (b : ByteArray) : List UInt8 := b.data.toList
/-- The parts between the bytes c, from a part begun. -/
def splitA (c : UInt8) : List UInt8 → List UInt8 → List (List UInt8)
  | cur, [] => [cur]
  | cur, x :: r => if x = c then cur :: splitA c [] r else splitA c (cur ++ [x]) r
def splitL (c : UInt8) (l : List UInt8) : List (List UInt8) := splitA c [] l
theorem toL_extract (s : ByteArray) (a k : Nat) : toL (s.extract a k) = ((toL s).take k).drop a := by
  simp only [toL, ByteArray.data_extract, Array.toList_extract, List.extract_eq_take_drop]
  rw [List.drop_take]
theorem split_hit (c : UInt8) (l : List UInt8) (a k : Nat) (hk : k < l.length) (h : l.getD k 0 = c) : splitA c ((l.take k).drop a) (l.drop k) = (l.take k).drop a :: splitA c ((l.take (k + 1)).drop (k + 1)) (l.drop (k + 1)) := by
  rw [List.drop_eq_getElem_cons hk, splitA, if_pos (by rw [← h]; simp [List.getD, List.getElem?_eq_getElem hk])]
  rw [List.drop_eq_nil_of_le (show (l.take (k + 1)).length ≤ k + 1 by rw [List.length_take]; omega)]
theorem split_miss (c : UInt8) (l : List UInt8) (a k : Nat) (hak : a ≤ k) (hk : k < l.length) (h : l.getD k 0 ≠ c) : splitA c ((l.take k).drop a) (l.drop k) = splitA c ((l.take (k + 1)).drop a) (l.drop (k + 1)) := by
  rw [List.drop_eq_getElem_cons hk, splitA, if_neg (by rw [List.getD, List.getElem?_eq_getElem hk] at h; exact h), take_snocB l k hk, List.drop_append_of_le_length (by rw [List.length_take]; omega)]
  simp [List.getD, List.getElem?_eq_getElem hk]
theorem split_end (c : UInt8) (l : List UInt8) (a k : Nat) (hk : l.length ≤ k) : splitA c ((l.take k).drop a) (l.drop k) = [l.drop a] := by
  rw [List.drop_eq_nil_of_le hk, List.take_of_length_le hk, splitA]
set_option maxRecDepth 100000 in
set_option maxHeartbeats 4000000 in
theorem split_any (s : ByteArray) (hm : s.size ≤ 1048576) (c : UInt8) (q : Int) (hq : q = (c.toNat : Int)) (w : World) :
    Calls Tryd.prog 45 #[.string s, .int .u8 q] w fun e w' => ∃ v, e = .returned v ∧ ∃ ps, GrT w' w.heap.size v ps ∧ ps.map toL = splitL c (toL s) ∧ Below w.heap.size w w' := by
  have HIX := Lib.hid (fun k hk => idx_atN s k hk)
  have HQ := Lib.hid hq
  have hll : (toL s).length = s.size := str_len s
  have HLL := Lib.hid hll
  clear hq hll
  go_enter Tryd.func45, Tryd.ntmps45
  go_wp2
  go_loopw [5, 6, 7] (fun v a i wr => ∃ (k at' : Nat) (done : List ByteArray), k ≤ s.size ∧ at' ≤ k ∧ done.length ≤ k ∧ a = (.int .i64 at') ∧ i = (.int .i64 k) ∧ Hid (done.map toL ++ splitA c (((toL s).take k).drop at') ((toL s).drop k) = splitL c (toL s)) ∧ GrT wr w.heap.size v done ∧ Below w.heap.size w wr) (fun _ _ i _ => s.size - (intOf i).toNat)
  case atStart => exact ⟨0, 0, [], Nat.zero_le _, Nat.le_refl _, by simp, rfl, rfl, Lib.hid (by simp [splitL]), GrT.made rfl (Nat.le_refl _) rfl (by omega), by repeat (first | with_reducible exact own_refl _ | with_reducible assumption | with_reducible apply own_alloc | with_reducible apply own_drewN | with_reducible apply own_drew | ((with_reducible refine own_setCell ?_ ?_ _); rotate_left; focus (first | (simp; done) | (simp; omega))) | (with_reducible (refine own_trans ?_ (by assumption))))⟩
  case round =>
    obtain ⟨k, at', done, hk, hak, hdn, rfl, rfl, HS, hG, T⟩ := hrel
    obtain ⟨ad, cap, rfl⟩ := hG.shape
    have hz := T.size
    have HDL := Lib.hid hdn
    by_cases hlt : k < s.size
    · obtain ⟨x, hix, hx⟩ := HIX.out k hlt
      have hlt' : (k : Int) < (s.size : Int) := by omega
      have hkl : k < (toL s).length := by rw [HLL.out]; exact hlt
      by_cases hd : (toL s).getD k 0 = c
      · have hxq : (x == q) = true := by rw [hx, HQ.out]; have : s.data.toList.getD k 0 = c := hd; rw [this]; simp
        have HN := Lib.hid (split_hit c (toL s) at' k hkl hd)
        have HX := Lib.hid (toL_extract s at' k)
        clear hx hd hdn
        go_wp2_with (at_builtin; refine appT rfl _ _ rfl w.heap.size _ (.slice ad done.length cap) done (s.extract at' k) rfl hG _ rfl rfl (by have := HDL.out; omega) hz ?_; intro v' w3 hG3 hb3)
        have T := T.trans hb3
        go_wp2
        go_roundw
        case rel => exact ⟨k + 1, k + 1, done ++ [s.extract at' k], by omega, by omega, by have := HDL.out; simp; omega, by go_num, by go_num, Lib.hid (by rw [List.map_append, List.append_assoc, ← HS.out, HN.out]; simp [HX.out]), hG3, T⟩
        case measure => simp [intOf]; omega
      · have hxq : (x == q) = false := by rw [hx, HQ.out]; exact byte_ne hd
        have HN := Lib.hid (split_miss c (toL s) at' k hak hkl hd)
        clear hx hd hdn
        go_wp2
        go_roundw
        case rel => exact ⟨k + 1, at', done, by omega, by omega, by have := HDL.out; omega, rfl, by go_num, Lib.hid (by rw [← HS.out, HN.out]), hG, T⟩
        case measure => simp [intOf]; omega
    · have hlt' : ¬ (k : Int) < (s.size : Int) := by omega
      have HN := Lib.hid (split_end c (toL s) at' k (by rw [HLL.out]; omega))
      have HX := Lib.hid (show toL (s.extract at' s.size) = (toL s).drop at' by rw [toL_extract s at' s.size, List.take_of_length_le (by rw [HLL.out]; omega)])
      have has : at' ≤ s.size := by omega
      clear hdn
      go_wp2_with (at_builtin; refine appT rfl _ _ rfl w.heap.size _ (.slice ad done.length cap) done (s.extract at' s.size) rfl hG _ rfl rfl (by have := HDL.out; omega) hz ?_; intro v' w3 hG3 hb3)
      have T := T.trans hb3
      go_wp2
      go_ret
      exact ⟨_, rfl, _, hG3, by rw [List.map_append, ← HS.out, HN.out]; simp [HX.out], T⟩
end Go.Proofs.YtfgbmddmmgipnaaDoor
