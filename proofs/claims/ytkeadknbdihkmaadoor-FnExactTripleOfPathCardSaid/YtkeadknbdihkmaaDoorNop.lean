/- NumberOfPath: both sides. -/
import Derived.Test.YtkeadknbdihkmaaDoorWpS
import Derived.Test.YtkeadknbdihkmaaDoorTrI
namespace Go.Proofs.YtkeadknbdihkmaaDoor
open Go.ChangeShapes Go.WideShapes Go.ChangeAt Go.RowKit

/-- What NumberOfPath returns. -/
def RetN (v k : Int) (w : World) (e : Ending) (w' : World) : Prop := e = .returned (.tuple #[(.int .i64 v), (.int .i64 k)]) ∧ Below w.heap.size w w'
theorem prod_ok (ms : List Mat) : ∀ p r : Mat, p.ok = true → prod p ms = some r → r.ok = true := by
  induction ms with
  | nil => intro p r h e; simp only [prod, Option.some.injEq] at e; exact e ▸ h
  | cons m t ih =>
    intro p r h e
    rw [prod] at e
    split at e
    · rename_i hok
      exact ih _ _ hok e
    · cases e
/-- the matrix of a word of letters, with its code -/
theorem PA_word {s : ByteArray} {r : Mat} {kd : Int} (h : PA (wordB s) r kd) : r.ok = true ∧ ((kd = 0) ∨ (kd = 3 ∧ r = Mat.zero)) := by
  rcases PA_good h (wordB_all s) with ⟨_, h2, h3⟩ | ⟨h1, h2⟩
  · exact ⟨by rw [h2]; decide, .inr ⟨h3, h2⟩⟩
  · exact ⟨prod_ok _ _ _ (by decide) h1, .inl h2⟩
theorem treeOk_app (u v : ByteArray) (hu : treeOk u.data.toList = true) (hv : treeOk v.data.toList = true) : treeOk (u ++ v).data.toList = true := by
  rw [ByteArray.data_append, Array.toList_append]
  unfold treeOk at *
  rw [List.all_append, hu, hv]
  rfl
def TreeP (p : ByteArray × ByteArray) : Prop := treeOk p.1.data.toList = true ∧ treeOk p.2.data.toList = true
theorem foldW_tree (bs : List UInt8) : ∀ p : ByteArray × ByteArray, TreeP p → TreeP (bs.foldl stepW p) := by
  induction bs with
  | nil => intro p h; exact h
  | cons c r ih =>
    intro p h
    rw [List.foldl_cons]
    refine ih _ ?_
    unfold stepW
    split
    · exact ⟨h.1, treeOk_app _ _ h.1 h.2⟩
    · exact ⟨treeOk_app _ _ h.1 h.2, h.2⟩
theorem pathW_tree (bs : List UInt8) : TreeP (pathW bs) := foldW_tree bs _ ⟨rfl, rfl⟩
set_option maxHeartbeats 1000000 in
theorem numW (s : ByteArray) (hn : s.size ≤ 400) (hs : treeOk s.data.toList = true) (r : Mat) (kd : Int) (hPA : PA (wordB s) r kd) (w : World) (hid : Idn w) : Calls Tryd.prog 55 #[.string s] w (RetN r.b kd w) := by
  have HC := Lib.hid (implMol_yes s hn hs r kd hPA)
  clear hn hs hPA
  go_enter Tryd.func55, Tryd.ntmps55
  go_wp2_with fail
  refine (HC.out _ hid).mono ?_
  rintro e w1 ⟨rfl, hb1⟩
  go_wp2
  go_ret2
  exact ⟨rfl, by repeat (first | with_reducible exact own_refl _ | with_reducible assumption | with_reducible apply own_alloc | with_reducible apply own_drewN | with_reducible apply own_drew | ((with_reducible refine own_setCell ?_ ?_ _); rotate_left; focus (first | (simp; done) | (simp; omega))) | (with_reducible (refine own_trans ?_ (by assumption))))⟩
set_option maxHeartbeats 1000000 in
theorem implNop_bad (s : ByteArray) (k : Int) (hk : ¬ k = 0) (hs : ∀ w, Calls Tryd.prog 54 #[.string s] w (RetW ⟨#[]⟩ k w)) (w : World) : Calls Tryd.prog 27 #[.string s] w (RetN 0 k w) := by
  have HS := Lib.hid hs
  clear hs
  go_enter Tryd.func27, Tryd.ntmps27
  go_wp2_with fail
  refine (HS.out _).mono ?_
  rintro e w1 ⟨rfl, hb1⟩
  go_wp2
  go_ret2
  exact ⟨rfl, by repeat (first | with_reducible exact own_refl _ | with_reducible assumption | with_reducible apply own_alloc | with_reducible apply own_drewN | with_reducible apply own_drew | ((with_reducible refine own_setCell ?_ ?_ _); rotate_left; focus (first | (simp; done) | (simp; omega))) | (with_reducible (refine own_trans ?_ (by assumption))))⟩
set_option maxHeartbeats 1000000 in
theorem implNop_yes (s p : ByteArray) (hn : p.size ≤ 400) (ht : treeOk p.data.toList = true) (r : Mat) (kd : Int) (hPA : PA (wordB p) r kd) (hs : ∀ w, Calls Tryd.prog 54 #[.string s] w (RetW p 0 w)) (w : World) (hid : Idn w) : Calls Tryd.prog 27 #[.string s] w (RetN r.b kd w) := by
  have HS := Lib.hid hs
  have HC := Lib.hid (numW p hn ht r kd hPA)
  clear hs hn ht hPA
  go_enter Tryd.func27, Tryd.ntmps27
  go_wp2_with fail
  refine (HS.out _).mono ?_
  rintro e w1 ⟨rfl, hb1⟩
  go_wp2_with fail
  refine (HC.out _ (Rd.below hid hb1)).mono ?_
  rintro e w2 ⟨rfl, hb2⟩
  go_wp2
  go_ret2
  exact ⟨rfl, by repeat (first | with_reducible exact own_refl _ | with_reducible assumption | with_reducible apply own_alloc | with_reducible apply own_drewN | with_reducible apply own_drew | ((with_reducible refine own_setCell ?_ ?_ _); rotate_left; focus (first | (simp; done) | (simp; omega))) | (with_reducible (refine own_trans ?_ (by assumption))))⟩
set_option maxHeartbeats 1000000 in
theorem specNop_bad (s : ByteArray) (k : Int) (hk : ¬ k = 0) (hs : ∀ w, Calls Tryd.prog 53 #[.string s] w (RetP ⟨#[]⟩ ⟨#[]⟩ k w)) (w : World) : Calls Tryd.prog 26 #[.string s] w (RetN 0 k w) := by
  have HS := Lib.hid hs
  clear hs
  go_enter Tryd.func26, Tryd.ntmps26
  go_wp2_with fail
  refine (HS.out _).mono ?_
  rintro e w1 ⟨rfl, hb1⟩
  go_wp2
  go_ret2
  exact ⟨rfl, by repeat (first | with_reducible exact own_refl _ | with_reducible assumption | with_reducible apply own_alloc | with_reducible apply own_drewN | with_reducible apply own_drew | ((with_reducible refine own_setCell ?_ ?_ _); rotate_left; focus (first | (simp; done) | (simp; omega))) | (with_reducible (refine own_trans ?_ (by assumption))))⟩
set_option maxHeartbeats 1000000 in
theorem specNop_yes (s u v p : ByteArray) (hp : u ++ v = p) (hl : u.size + v.size ≤ 400) (r : Mat) (kd : Int) (hPA : PA (wordB p) r kd) (hs : ∀ w, Calls Tryd.prog 53 #[.string s] w (RetP u v 0 w)) (w : World) : Calls Tryd.prog 26 #[.string s] w (RetN r.b kd w) := by
  have HS := Lib.hid hs
  have hz : p.size ≤ 400 := by rw [← hp, ByteArray.size_append]; exact hl
  have HC := Lib.hid (l09Matrix_any p (by omega) r kd hPA)
  have HPP := Lib.hid hp
  have hcc : ¬ 9223372036854775807 < u.size + v.size := by omega
  clear hs hPA hp hz
  go_enter Tryd.func26, Tryd.ntmps26
  go_wp2_with fail
  refine (HS.out _).mono ?_
  rintro e w1 ⟨rfl, hb1⟩
  go_wp2_with fail
  rw [HPP.out]
  refine (HC.out _).mono ?_
  rintro e w2 ⟨rfl, hb2⟩
  go_wp2
  go_ret2
  exact ⟨rfl, by repeat (first | with_reducible exact own_refl _ | with_reducible assumption | with_reducible apply own_alloc | with_reducible apply own_drewN | with_reducible apply own_drew | ((with_reducible refine own_setCell ?_ ?_ _); rotate_left; focus (first | (simp; done) | (simp; omega))) | (with_reducible (refine own_trans ?_ (by assumption))))⟩
end Go.Proofs.YtkeadknbdihkmaaDoor
