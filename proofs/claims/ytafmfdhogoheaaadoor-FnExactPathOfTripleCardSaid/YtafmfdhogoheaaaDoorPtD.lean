/- DownPath once more, with the capacity of its list. -/
import Derived.Test.YtafmfdhogoheaaaDoorDnI
namespace Go.Proofs.YtafmfdhogoheaaaDoor
open Go.ChangeShapes Go.WideShapes Go.ChangeAt Go.RowKit

def RetHc (n : Nat) (xs : List Int) (k : Int) (w : World) (e : Ending) (w' : World) : Prop := ∃ v, e = .returned (.tuple #[v, (.int .i64 k)]) ∧ SlH w' w.heap.size w'.heap.size v n xs ∧ Below w.heap.size w w' ∧ ∃ ad cap, v = .slice ad n cap ∧ n ≤ cap
theorem GrH.cap {w : World} {L n cap : Nat} {ad : Option Addr} {xs : List Int} (h : GrH w L (.slice ad n cap) n xs) : n ≤ cap := by
  obtain ⟨hl, ⟨hv, h0⟩ | ⟨g, cap', cur, hv, _, _, hn, _⟩⟩ := h
  · omega
  · injection hv with _ _ h3
    omega
set_option maxHeartbeats 4000000 in
theorem implDn_cap (a b c : Int) (h : isT a b c = true) (n : Nat) (l : List Int) (hd : Dn a b c n l) (hn : n < 1000000000) (w : World) (hid : FtT w) : Calls Tryd.prog 28 #[(.agg #[.int .i64 a, .int .i64 b, .int .i64 c])] w (RetHc (n + 1) (a :: b :: c :: l) 0 w) := by
  have H := Lib.hid h
  have HD := Lib.hid hd
  clear h hd
  go_enter Tryd.func28, Tryd.ntmps28
  go_wp2_with fail
  refine (implIsT_is true _ _ _ H.out _).mono ?_
  rintro e w1 ⟨rfl, hb1⟩
  have Bw1_0 : Box w1 (w.heap.size) [.int .i64 a, .int .i64 b, .int .i64 c] := by refine Box.below ?_ hb1; repeat (first | with_reducible assumption | with_reducible exact Box.new _ _ _ | (with_reducible refine Box.newAt ?_ _ _; (simp; done)) | with_reducible apply Box.alloc | with_reducible apply Box.drewN | with_reducible apply Box.drew)
  obtain ⟨_, _, _, _, _, _, _⟩ := Bw1_0.three
  have T1 : Below w.heap.size w w1 := by repeat (first | with_reducible exact own_refl _ | with_reducible assumption | with_reducible apply own_alloc | with_reducible apply own_drewN | with_reducible apply own_drew | ((with_reducible refine own_setCell ?_ ?_ _); rotate_left; focus (first | (simp; done) | (simp; omega))) | (with_reducible (refine own_trans ?_ (by assumption))))
  have z1 : w.heap.size + 1 ≤ w1.heap.size := by have := hb1.size; simpa using this
  go_wp2_with fail
  go_loopw [4] (fun v wr => ∃ (x y z : Int) (k m : Nat) (done rest : List Int), Below w.heap.size w wr ∧ w.heap.size + 1 ≤ wr.heap.size ∧ Box wr w.heap.size [.int .i64 x, .int .i64 y, .int .i64 z] ∧ GrH wr (w.heap.size + 1) v k done ∧ Hid (isT x y z = true ∧ Dn x y z m rest ∧ k + m = n + 1 ∧ done ++ rest = a :: b :: c :: l)) (fun _ wr => (cel3 wr w.heap.size).toNat)
  case atStart => exact ⟨a, b, c, 1, n, [a, b, c], l, by repeat (first | with_reducible exact own_refl _ | with_reducible assumption | with_reducible apply own_alloc | with_reducible apply own_drewN | with_reducible apply own_drew | ((with_reducible refine own_setCell ?_ ?_ _); rotate_left; focus (first | (simp; done) | (simp; omega))) | (with_reducible (refine own_trans ?_ (by assumption)))), by simp; omega, Bw1_0.alloc _, GrH.one a b c rfl z1, Lib.hid ⟨H.out, HD.out, by omega, rfl⟩⟩
  case round =>
    obtain ⟨x, y, z, k, m, done, rest, T, hz, B, hG, HR⟩ := hrel
    obtain ⟨ad, cap, hv⟩ := hG.shape
    subst hv
    obtain ⟨_, _, _, _, _, _, _⟩ := B.three
    obtain ⟨gl, gc⟩ := Rd.below hid T
    have gc0 := gc 0 _ rfl
    have gc1 := gc 1 _ rfl
    have gc2 := gc 2 _ rfl
    clear gc
    by_cases hne : x = 1 ∧ y = 1 ∧ z = 1
    · obtain ⟨rfl, rfl, rfl⟩ := hne
      have q0 := fun w => eq_trip_is true 1 1 1 1 1 1 (by decide) w
      have HS : Hid (k = n + 1 ∧ done = a :: b :: c :: l) := Lib.hid (by
        obtain ⟨_, h2, h3, h4⟩ := HR.out
        obtain ⟨h5, h6⟩ := h2.stop
        subst h5 h6
        exact ⟨by omega, by simpa using h4⟩)
      clear HR
      go_wp2
      go_ret2
      obtain ⟨h5, h6⟩ := HS.out
      rw [← h5, ← h6]
      exact ⟨_, rfl, hG.sl.weak (by omega), T, _, _, rfl, hG.cap⟩
    · have q0 := fun w => eq_trip_is false x y z 1 1 1 (decide_eq_false hne) w
      obtain ⟨h1, h2, h3, h4⟩ := HR.out
      obtain ⟨ex, ey, ez⟩ := isT_ent h1
      obtain ⟨d1, d2, d3⟩ := down_is h1 hne rfl
      obtain ⟨m', rest', e5, e6, e7⟩ := h2.next hne
      obtain ⟨p, hp⟩ : ∃ p, lo3 x y (3 * x * y - z) = p := ⟨_, rfl⟩
      obtain ⟨q, hq⟩ : ∃ p, mi3 x y (3 * x * y - z) = p := ⟨_, rfl⟩
      obtain ⟨r, hr⟩ : ∃ p, hi3 x y (3 * x * y - z) = p := ⟨_, rfl⟩
      rw [hp, hq, hr] at e6 e7 d1
      rw [hr] at d2
      have HC := Lib.hid (fun w => replaced_2 x y z _ p q r ex ey ez rfl hp hq hr w)
      have HS : Hid (isT p q r = true ∧ Dn p q r m' rest' ∧ k + 1 + m' = n + 1 ∧ (done ++ [p, q, r]) ++ rest' = a :: b :: c :: l) := Lib.hid ⟨d1, e7, by omega, by rw [← h4, e6]; simp⟩
      have HM : Hid (r.toNat < z.toNat ∧ k ≤ 1000000000) := Lib.hid ⟨by have := (isT_of h1).1; have := (isT_of h1).2.1; omega, by omega⟩
      clear HR h1 h2 h3 h4 ex ey ez d1 d2 d3 e5 e6 e7 hp hq hr
      go_wp2_with fail
      refine (HC.out _).mono ?_
      rintro e w2 ⟨rfl, hb2⟩
      have B2 := B.below hb2
      obtain ⟨_, _, _, _, _, _, _⟩ := B2.three
      have G2 := hG.own hb2
      have T2 := own_trans T hb2
      have z2 := hb2.size
      have B3 := B2.put3 (.int .i64 p) (.int .i64 q) (.int .i64 r)
      have G3 := ((G2.set (p := ⟨w.heap.size, 0, none⟩) (Nat.lt_succ_self _) (.int .i64 p)).set (p := ⟨w.heap.size, 1, none⟩) (Nat.lt_succ_self _) (.int .i64 q)).set (p := ⟨w.heap.size, 2, none⟩) (Nat.lt_succ_self _) (.int .i64 r)
      have T3 : Below w.heap.size w (((w2.setCell ⟨w.heap.size, 0, none⟩ (.int .i64 p)).setCell ⟨w.heap.size, 1, none⟩ (.int .i64 q)).setCell ⟨w.heap.size, 2, none⟩ (.int .i64 r)) := ((T2.setCell (Nat.le_refl _) _).setCell (Nat.le_refl _) _).setCell (Nat.le_refl _) _
      go_upto_region 6 with fail
      have zW : w.heap.size + 1 ≤ (((w2.setCell ⟨w.heap.size, 0, none⟩ (.int .i64 p)).setCell ⟨w.heap.size, 1, none⟩ (.int .i64 q)).setCell ⟨w.heap.size, 2, none⟩ (.int .i64 r)).heap.size := by simp [World.setCell]; omega
      generalize (((w2.setCell ⟨w.heap.size, 0, none⟩ (.int .i64 p)).setCell ⟨w.heap.size, 1, none⟩ (.int .i64 q)).setCell ⟨w.heap.size, 2, none⟩ (.int .i64 r)) = W at *
      clear B2 G2 T2
      obtain ⟨_, _, _, _, _, _, _⟩ := B3.three
      have HB := Lib.hid (cel3_is B)
      go_wp2_with (at_builtin; refine appH rfl _ _ rfl (w.heap.size + 1) W (.slice ad k cap) k _ p q r rfl G3 W.heap.size rfl rfl (by have := HM.out; omega) (by omega) ?_; intro v' w3 hG3 hb3)
      go_roundw
      case rel => exact ⟨p, q, r, k + 1, m', _, rest', T3.trans (hb3.mono (by omega)), by have := hb3.size; omega, B3.low hb3 (Nat.lt_succ_self _), hG3, HS⟩
      case measure =>
        rw [cel3_is (B3.low hb3 (Nat.lt_succ_self _)), HB.out]
        exact HM.out.1
end Go.Proofs.YtafmfdhogoheaaaDoor
