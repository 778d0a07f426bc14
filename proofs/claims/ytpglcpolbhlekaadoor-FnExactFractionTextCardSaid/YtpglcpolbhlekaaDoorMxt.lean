/- MatrixText, FractionText: contracts of both sides. -/
import Derived.Test.YtpglcpolbhlekaaDoorJoin
import Derived.Test.YtpglcpolbhlekaaDoorCmp
namespace Go.Proofs.YtpglcpolbhlekaaDoor
open Go.ChangeShapes Go.WideShapes Go.ChangeAt Go.RowKit

/-- What a call that makes a text gives back. -/
def RetX (l : ByteArray) (k : Int) (w : World) (e : Ending) (w' : World) : Prop := e = .returned (.tuple #[.string l, (.int .i64 k)]) ∧ Below w.heap.size w w'
theorem i64_ent {n : Int} (h : Ent n) : I64 n := by unfold Ent at h; unfold I64; omega
theorem itoa_len {n : Int} (h : Ent n) : (Lib.itoa n).length ≤ 21 := by
  unfold Ent at h
  exact Lib.itoa_length_le n (by omega) (by omega)
theorem join4 (a b c d : Int) : (⟨(Lib.join ([a, b, c, d].map Lib.itoa) (⟨#[44]⟩ : ByteArray).data.toList).toArray⟩ : ByteArray) = text4 a b c d := by
  apply ByteArray.ext
  simp [text4, itoaB, Lib.join, List.intercalate, ByteArray.data_append]
theorem join2 (a b : Int) : (⟨(Lib.join ([a, b].map Lib.itoa) (⟨#[47]⟩ : ByteArray).data.toList).toArray⟩ : ByteArray) = text2 a b := by
  apply ByteArray.ext
  simp [text2, itoaB, Lib.join, List.intercalate, ByteArray.data_append]
set_option maxHeartbeats 1000000 in
theorem implMxt_no (a b c d : Int) (h : isM a b c d = false) (w : World) : Calls Tryd.prog 12 #[(.agg #[.int .i64 a, .int .i64 b, .int .i64 c, .int .i64 d])] w (RetX ⟨#[]⟩ 1 w) := by
  have HI := Lib.hid (fun w => implIs_is false a b c d w h)
  clear h
  go_enter Tryd.func12, Tryd.ntmps12
  go_wp2_with fail
  refine (HI.out _).mono ?_
  rintro e w1 ⟨rfl, hb1⟩
  go_wp2
  go_ret2
  exact ⟨rfl, by repeat (first | with_reducible exact own_refl _ | with_reducible assumption | with_reducible apply own_alloc | with_reducible apply own_drewN | with_reducible apply own_drew | ((with_reducible refine own_setCell ?_ ?_ _); rotate_left; focus (first | (simp; done) | (simp; omega))) | (with_reducible (refine own_trans ?_ (by assumption))))⟩
set_option maxHeartbeats 1000000 in
theorem implMxt_yes (a b c d : Int) (h : isM a b c d = true) (w : World) (hp : PT w) : Calls Tryd.prog 12 #[(.agg #[.int .i64 a, .int .i64 b, .int .i64 c, .int .i64 d])] w (RetX (text4 a b c d) 0 w) := by
  obtain ⟨ha, hb, hc, hd, _⟩ := isM_ent h
  have HI := Lib.hid (fun w => implIs_is true a b c d w h)
  have hlen : (Lib.join ([a, b, c, d].map Lib.itoa) (⟨#[44]⟩ : ByteArray).data.toList).length ≤ 10000 := by
    have := itoa_len ha
    have := itoa_len hb
    have := itoa_len hc
    have := itoa_len hd
    simp [Lib.join, List.intercalate]
    omega
  have HJ := Lib.hid (fun (b' : Nat) (w : World) (hp : PT w) (hb' : b' < w.heap.size) => joinN_any ⟨#[44]⟩ [a, b, c, d] (fun x hx => by simp at hx; rcases hx with rfl | rfl | rfl | rfl <;> (apply i64_ent; assumption)) 4 rfl (by omega) (by omega) b' w hp hb' hlen)
  have HP := Lib.hid hp
  rw [join4] at HJ
  clear h hlen ha hb hc hd hp
  go_enter Tryd.func12, Tryd.ntmps12
  go_wp2_with fail
  refine (HI.out _).mono ?_
  rintro e w1 ⟨rfl, hb1⟩
  have B1 : Box w1 w.heap.size [.int .i64 a, .int .i64 b, .int .i64 c, .int .i64 d] := Box.below (Box.new _ _ _) hb1
  have T1 : Below w.heap.size w w1 := by repeat (first | with_reducible exact own_refl _ | with_reducible assumption | with_reducible apply own_alloc | with_reducible apply own_drewN | with_reducible apply own_drew | ((with_reducible refine own_setCell ?_ ?_ _); rotate_left; focus (first | (simp; done) | (simp; omega))) | (with_reducible (refine own_trans ?_ (by assumption))))
  obtain ⟨hg, c0, c1, c2, c3, _, _, _, _⟩ := B1.four
  have HQ := Lib.hid (HJ.out w.heap.size w1 (PT.below HP.out T1) hg (fun k hk => by
    match k, hk with
    | 0, _ => exact c0
    | 1, _ => exact c1
    | 2, _ => exact c2
    | 3, _ => exact c3))
  go_wp2_with fail
  refine HQ.out.mono ?_
  rintro e w2 ⟨rfl, hb2⟩
  go_wp2
  go_ret2
  exact ⟨rfl, by repeat (first | with_reducible exact own_refl _ | with_reducible assumption | with_reducible apply own_alloc | with_reducible apply own_drewN | with_reducible apply own_drew | ((with_reducible refine own_setCell ?_ ?_ _); rotate_left; focus (first | (simp; done) | (simp; omega))) | (with_reducible (refine own_trans ?_ (by assumption))))⟩
set_option maxHeartbeats 1000000 in
theorem specMxt_no (a b c d : Int) (h : isM a b c d = false) (w : World) : Calls Tryd.prog 10 #[(.agg #[.int .i64 a, .int .i64 b, .int .i64 c, .int .i64 d])] w (RetX ⟨#[]⟩ 1 w) := by
  have HI := Lib.hid (fun w => l01Is_is false a b c d w h)
  clear h
  go_enter Tryd.func10, Tryd.ntmps10
  go_wp2_with fail
  refine (HI.out _).mono ?_
  rintro e w1 ⟨rfl, hb1⟩
  go_wp2
  go_ret2
  exact ⟨rfl, by repeat (first | with_reducible exact own_refl _ | with_reducible assumption | with_reducible apply own_alloc | with_reducible apply own_drewN | with_reducible apply own_drew | ((with_reducible refine own_setCell ?_ ?_ _); rotate_left; focus (first | (simp; done) | (simp; omega))) | (with_reducible (refine own_trans ?_ (by assumption))))⟩
set_option maxHeartbeats 1000000 in
theorem specMxt_yes (a b c d : Int) (h : isM a b c d = true) (w : World) : Calls Tryd.prog 10 #[(.agg #[.int .i64 a, .int .i64 b, .int .i64 c, .int .i64 d])] w (RetX (text4 a b c d) 0 w) := by
  obtain ⟨ha, hb, hc, hd, _⟩ := isM_ent h
  have HI := Lib.hid (fun w => l01Is_is true a b c d w h)
  have HT := Lib.hid (text4_any a b c d ha hb hc hd)
  clear h ha hb hc hd
  go_enter Tryd.func10, Tryd.ntmps10
  go_wp2_with fail
  refine (HI.out _).mono ?_
  rintro e w1 ⟨rfl, hb1⟩
  have Bw1_0 : Box w1 (w.heap.size) [.int .i64 a, .int .i64 b, .int .i64 c, .int .i64 d] := by refine Box.below ?_ hb1; repeat (first | with_reducible assumption | with_reducible exact Box.new _ _ _ | (with_reducible refine Box.newAt ?_ _ _; (simp; done)) | with_reducible apply Box.alloc | with_reducible apply Box.drewN | with_reducible apply Box.drew)
  obtain ⟨_, _, _, _, _, _, _, _, _⟩ := Bw1_0.four
  go_wp2_with fail
  refine (HT.out _).mono ?_
  rintro e w2 ⟨rfl, hb2⟩
  go_wp2
  go_ret2
  exact ⟨rfl, by repeat (first | with_reducible exact own_refl _ | with_reducible assumption | with_reducible apply own_alloc | with_reducible apply own_drewN | with_reducible apply own_drew | ((with_reducible refine own_setCell ?_ ?_ _); rotate_left; focus (first | (simp; done) | (simp; omega))) | (with_reducible (refine own_trans ?_ (by assumption))))⟩
set_option maxHeartbeats 1000000 in
theorem implFxt_no (a b : Int) (h : isF a b = false) (w : World) : Calls Tryd.prog 15 #[(.agg #[.int .i64 a, .int .i64 b])] w (RetX ⟨#[]⟩ 1 w) := by
  have HI := Lib.hid (fun w => implIsF_isC false a b h w)
  clear h
  go_enter Tryd.func15, Tryd.ntmps15
  go_wp2_with fail
  refine (HI.out _).mono ?_
  rintro e w1 ⟨rfl, hb1⟩
  go_wp2
  go_ret2
  exact ⟨rfl, by repeat (first | with_reducible exact own_refl _ | with_reducible assumption | with_reducible apply own_alloc | with_reducible apply own_drewN | with_reducible apply own_drew | ((with_reducible refine own_setCell ?_ ?_ _); rotate_left; focus (first | (simp; done) | (simp; omega))) | (with_reducible (refine own_trans ?_ (by assumption))))⟩
set_option maxHeartbeats 1000000 in
theorem implFxt_yes (a b : Int) (h : isF a b = true) (w : World) (hp : PT w) : Calls Tryd.prog 15 #[(.agg #[.int .i64 a, .int .i64 b])] w (RetX (text2 a b) 0 w) := by
  obtain ⟨ha, hb, _⟩ := isF_entC h
  have HI := Lib.hid (fun w => implIsF_isC true a b h w)
  have hlen : (Lib.join ([a, b].map Lib.itoa) (⟨#[47]⟩ : ByteArray).data.toList).length ≤ 10000 := by
    have := itoa_len ha
    have := itoa_len hb
    simp [Lib.join, List.intercalate]
    omega
  have HJ := Lib.hid (fun (b' : Nat) (w : World) (hp : PT w) (hb' : b' < w.heap.size) => joinN_any ⟨#[47]⟩ [a, b] (fun x hx => by simp at hx; rcases hx with rfl | rfl <;> (apply i64_ent; assumption)) 2 rfl (by omega) (by omega) b' w hp hb' hlen)
  have HP := Lib.hid hp
  rw [join2] at HJ
  clear h hlen ha hb hp
  go_enter Tryd.func15, Tryd.ntmps15
  go_wp2_with fail
  refine (HI.out _).mono ?_
  rintro e w1 ⟨rfl, hb1⟩
  have B1 : Box w1 w.heap.size [.int .i64 a, .int .i64 b] := Box.below (Box.new _ _ _) hb1
  have T1 : Below w.heap.size w w1 := by repeat (first | with_reducible exact own_refl _ | with_reducible assumption | with_reducible apply own_alloc | with_reducible apply own_drewN | with_reducible apply own_drew | ((with_reducible refine own_setCell ?_ ?_ _); rotate_left; focus (first | (simp; done) | (simp; omega))) | (with_reducible (refine own_trans ?_ (by assumption))))
  obtain ⟨hg, c0, c1, _, _⟩ := B1.two
  have HQ := Lib.hid (HJ.out w.heap.size w1 (PT.below HP.out T1) hg (fun k hk => by
    match k, hk with
    | 0, _ => exact c0
    | 1, _ => exact c1))
  go_wp2_with fail
  refine HQ.out.mono ?_
  rintro e w2 ⟨rfl, hb2⟩
  go_wp2
  go_ret2
  exact ⟨rfl, by repeat (first | with_reducible exact own_refl _ | with_reducible assumption | with_reducible apply own_alloc | with_reducible apply own_drewN | with_reducible apply own_drew | ((with_reducible refine own_setCell ?_ ?_ _); rotate_left; focus (first | (simp; done) | (simp; omega))) | (with_reducible (refine own_trans ?_ (by assumption))))⟩
set_option maxHeartbeats 1000000 in
theorem specFxt_no (a b : Int) (h : isF a b = false) (w : World) : Calls Tryd.prog 13 #[(.agg #[.int .i64 a, .int .i64 b])] w (RetX ⟨#[]⟩ 1 w) := by
  have HI := Lib.hid (fun w => l01Fraction_is false a b h w)
  clear h
  go_enter Tryd.func13, Tryd.ntmps13
  go_wp2_with fail
  refine (HI.out _).mono ?_
  rintro e w1 ⟨rfl, hb1⟩
  go_wp2
  go_ret2
  exact ⟨rfl, by repeat (first | with_reducible exact own_refl _ | with_reducible assumption | with_reducible apply own_alloc | with_reducible apply own_drewN | with_reducible apply own_drew | ((with_reducible refine own_setCell ?_ ?_ _); rotate_left; focus (first | (simp; done) | (simp; omega))) | (with_reducible (refine own_trans ?_ (by assumption))))⟩
set_option maxHeartbeats 1000000 in
theorem specFxt_yes (a b : Int) (h : isF a b = true) (w : World) : Calls Tryd.prog 13 #[(.agg #[.int .i64 a, .int .i64 b])] w (RetX (text2 a b) 0 w) := by
  obtain ⟨ha, hb, _⟩ := isF_entC h
  have HI := Lib.hid (fun w => l01Fraction_is true a b h w)
  have HT := Lib.hid (text2_any a b ha hb)
  clear h ha hb
  go_enter Tryd.func13, Tryd.ntmps13
  go_wp2_with fail
  refine (HI.out _).mono ?_
  rintro e w1 ⟨rfl, hb1⟩
  have Bw1_0 : Box w1 (w.heap.size) [.int .i64 a, .int .i64 b] := by refine Box.below ?_ hb1; repeat (first | with_reducible assumption | with_reducible exact Box.new _ _ _ | (with_reducible refine Box.newAt ?_ _ _; (simp; done)) | with_reducible apply Box.alloc | with_reducible apply Box.drewN | with_reducible apply Box.drew)
  obtain ⟨_, _, _, _, _⟩ := Bw1_0.two
  go_wp2_with fail
  refine (HT.out _).mono ?_
  rintro e w2 ⟨rfl, hb2⟩
  go_wp2
  go_ret2
  exact ⟨rfl, by repeat (first | with_reducible exact own_refl _ | with_reducible assumption | with_reducible apply own_alloc | with_reducible apply own_drewN | with_reducible apply own_drew | ((with_reducible refine own_setCell ?_ ?_ _); rotate_left; focus (first | (simp; done) | (simp; omega))) | (with_reducible (refine own_trans ?_ (by assumption))))⟩
end Go.Proofs.YtpglcpolbhlekaaDoor
