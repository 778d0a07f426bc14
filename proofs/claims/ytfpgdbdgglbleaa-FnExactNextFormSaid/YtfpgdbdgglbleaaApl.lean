/- Contracts of ApplyMatrix and KeepsForm, on both sides. -/
import Derived.Test.YtfpgdbdgglbleaaFmV
namespace Go.Proofs.Ytfpgdbdgglbleaa
open Go.ChangeShapes Go.WideShapes Go.ChangeAt Go.RowKit

theorem allWk_is (r : Bool) (a b c d : Int) (g : Nat) (w : World) (hr : allW [a, b, c, d] 1000 = r)
    (h0 : w.cell? ⟨g, 0, none⟩ = some (.int .i64 a)) (h1 : w.cell? ⟨g, 1, none⟩ = some (.int .i64 b)) (h2 : w.cell? ⟨g, 2, none⟩ = some (.int .i64 c)) (h3 : w.cell? ⟨g, 3, none⟩ = some (.int .i64 d)) :
    Calls Try.prog 34 #[.slice (some ⟨g, 0, none⟩) 4 4, .int .i64 1000] w fun e w' => e = .returned (.bool r) ∧ w = w' := by
  subst hr
  refine allWithin_any [a, b, c, d] 1000 (by omega) (by omega) g 0 4 (by simp) w ?_
  intro k hk
  have : k = 0 ∨ k = 1 ∨ k = 2 ∨ k = 3 := by simp at hk; omega
  rcases this with rfl | rfl | rfl | rfl <;> simpa
theorem allWk {a b c d : Int} (h : allW [a, b, c, d] 1000 = true) : FE a ∧ FE b ∧ FE c ∧ FE d := by
  simp only [allW, List.all_cons, List.all_nil, Bool.and_true, Bool.and_eq_true, inW, decide_eq_true_eq] at h
  unfold FE; omega

set_option maxHeartbeats 1000000 in
theorem checkApplied_q (a b c p q r s : Int) (h : isQ a b c = false) (w : World) :
    Calls Try.prog 43 #[(.agg #[.int .i64 a, .int .i64 b, .int .i64 c]), (.agg #[.int .i64 p, .int .i64 q, .int .i64 r, .int .i64 s])] w fun e w' => e = .returned (.int .i64 1) ∧ Below w.heap.size w w' := by
  have H := Lib.hid h
  clear h
  go_enter Try.func43, Try.ntmps43
  go_wp2_with fail
  refine (implIsQ_is false _ _ _ H.out _).mono ?_
  rintro e w1 ⟨rfl, hb1⟩
  go_wp2
  go_ret
  exact ⟨rfl, by repeat (first | with_reducible exact own_refl _ | with_reducible assumption | with_reducible apply own_alloc | with_reducible apply own_drewN | with_reducible apply own_drew | ((with_reducible refine own_setCell ?_ ?_ _); rotate_left; focus (first | (simp; done) | (simp; omega))) | (with_reducible (refine own_trans ?_ (by assumption))))⟩
set_option maxHeartbeats 1000000 in
theorem checkApplied_m (a b c p q r s : Int) (h : isQ a b c = true) (hm : isM p q r s = false) (w : World) :
    Calls Try.prog 43 #[(.agg #[.int .i64 a, .int .i64 b, .int .i64 c]), (.agg #[.int .i64 p, .int .i64 q, .int .i64 r, .int .i64 s])] w fun e w' => e = .returned (.int .i64 1) ∧ Below w.heap.size w w' := by
  have H := Lib.hid h
  have HM := Lib.hid hm
  clear h hm
  go_enter Try.func43, Try.ntmps43
  go_wp2_with fail
  refine (implIsQ_is true _ _ _ H.out _).mono ?_
  rintro e w1 ⟨rfl, hb1⟩
  have Bw1_0 : Box w1 (w.heap.size + 1) [.int .i64 p, .int .i64 q, .int .i64 r, .int .i64 s] := by refine Box.below ?_ hb1; repeat (first | with_reducible assumption | with_reducible exact Box.new _ _ _ | (with_reducible refine Box.newAt ?_ _ _; (simp; done)) | with_reducible apply Box.alloc | with_reducible apply Box.drewN | with_reducible apply Box.drew)
  obtain ⟨_, _, _, _, _, _, _, _, _⟩ := Bw1_0.four
  go_wp2_with fail
  refine (implIs_is false _ _ _ _ _ HM.out).mono ?_
  rintro e w2 ⟨rfl, hb2⟩
  go_wp2
  go_ret
  exact ⟨rfl, by repeat (first | with_reducible exact own_refl _ | with_reducible assumption | with_reducible apply own_alloc | with_reducible apply own_drewN | with_reducible apply own_drew | ((with_reducible refine own_setCell ?_ ?_ _); rotate_left; focus (first | (simp; done) | (simp; omega))) | (with_reducible (refine own_trans ?_ (by assumption))))⟩
set_option maxHeartbeats 1000000 in
theorem checkApplied_k (a b c p q r s : Int) (h : isQ a b c = true) (hm : isM p q r s = true) (hk : allW [p, q, r, s] 1000 = false) (w : World) :
    Calls Try.prog 43 #[(.agg #[.int .i64 a, .int .i64 b, .int .i64 c]), (.agg #[.int .i64 p, .int .i64 q, .int .i64 r, .int .i64 s])] w fun e w' => e = .returned (.int .i64 2) ∧ Below w.heap.size w w' := by
  have H := Lib.hid h
  have HM := Lib.hid hm
  have HK := Lib.hid hk
  clear h hm hk
  go_enter Try.func43, Try.ntmps43
  go_wp2_with fail
  refine (implIsQ_is true _ _ _ H.out _).mono ?_
  rintro e w1 ⟨rfl, hb1⟩
  have Bw1_0 : Box w1 (w.heap.size + 1) [.int .i64 p, .int .i64 q, .int .i64 r, .int .i64 s] := by refine Box.below ?_ hb1; repeat (first | with_reducible assumption | with_reducible exact Box.new _ _ _ | (with_reducible refine Box.newAt ?_ _ _; (simp; done)) | with_reducible apply Box.alloc | with_reducible apply Box.drewN | with_reducible apply Box.drew)
  obtain ⟨_, _, _, _, _, _, _, _, _⟩ := Bw1_0.four
  go_wp2_with fail
  refine (implIs_is true _ _ _ _ _ HM.out).mono ?_
  rintro e w2 ⟨rfl, hb2⟩
  have Bw2_0 : Box w2 (w.heap.size + 1) [.int .i64 p, .int .i64 q, .int .i64 r, .int .i64 s] := by refine Box.below ?_ hb2; repeat (first | with_reducible assumption | with_reducible exact Box.new _ _ _ | (with_reducible refine Box.newAt ?_ _ _; (simp; done)) | with_reducible apply Box.alloc | with_reducible apply Box.drewN | with_reducible apply Box.drew)
  obtain ⟨_, _, _, _, _, _, _, _, _⟩ := Bw2_0.four
  go_wp2_with fail
  refine (allWk_is false _ _ _ _ _ _ HK.out (by assumption) (by assumption) (by assumption) (by assumption)).mono ?_
  rintro e w3 ⟨rfl, rfl⟩
  go_wp2
  go_ret
  exact ⟨rfl, by repeat (first | with_reducible exact own_refl _ | with_reducible assumption | with_reducible apply own_alloc | with_reducible apply own_drewN | with_reducible apply own_drew | ((with_reducible refine own_setCell ?_ ?_ _); rotate_left; focus (first | (simp; done) | (simp; omega))) | (with_reducible (refine own_trans ?_ (by assumption))))⟩
set_option maxHeartbeats 1000000 in
theorem checkApplied_yes (a b c p q r s : Int) (h : isQ a b c = true) (hm : isM p q r s = true) (hk : allW [p, q, r, s] 1000 = true) (w : World) :
    Calls Try.prog 43 #[(.agg #[.int .i64 a, .int .i64 b, .int .i64 c]), (.agg #[.int .i64 p, .int .i64 q, .int .i64 r, .int .i64 s])] w fun e w' => e = .returned (.int .i64 0) ∧ Below w.heap.size w w' := by
  have H := Lib.hid h
  have HM := Lib.hid hm
  have HK := Lib.hid hk
  clear h hm hk
  go_enter Try.func43, Try.ntmps43
  go_wp2_with fail
  refine (implIsQ_is true _ _ _ H.out _).mono ?_
  rintro e w1 ⟨rfl, hb1⟩
  have Bw1_0 : Box w1 (w.heap.size + 1) [.int .i64 p, .int .i64 q, .int .i64 r, .int .i64 s] := by refine Box.below ?_ hb1; repeat (first | with_reducible assumption | with_reducible exact Box.new _ _ _ | (with_reducible refine Box.newAt ?_ _ _; (simp; done)) | with_reducible apply Box.alloc | with_reducible apply Box.drewN | with_reducible apply Box.drew)
  obtain ⟨_, _, _, _, _, _, _, _, _⟩ := Bw1_0.four
  go_wp2_with fail
  refine (implIs_is true _ _ _ _ _ HM.out).mono ?_
  rintro e w2 ⟨rfl, hb2⟩
  have Bw2_0 : Box w2 (w.heap.size + 1) [.int .i64 p, .int .i64 q, .int .i64 r, .int .i64 s] := by refine Box.below ?_ hb2; repeat (first | with_reducible assumption | with_reducible exact Box.new _ _ _ | (with_reducible refine Box.newAt ?_ _ _; (simp; done)) | with_reducible apply Box.alloc | with_reducible apply Box.drewN | with_reducible apply Box.drew)
  obtain ⟨_, _, _, _, _, _, _, _, _⟩ := Bw2_0.four
  go_wp2_with fail
  refine (allWk_is true _ _ _ _ _ _ HK.out (by assumption) (by assumption) (by assumption) (by assumption)).mono ?_
  rintro e w3 ⟨rfl, rfl⟩
  go_wp2
  go_ret
  exact ⟨rfl, by repeat (first | with_reducible exact own_refl _ | with_reducible assumption | with_reducible apply own_alloc | with_reducible apply own_drewN | with_reducible apply own_drew | ((with_reducible refine own_setCell ?_ ?_ _); rotate_left; focus (first | (simp; done) | (simp; omega))) | (with_reducible (refine own_trans ?_ (by assumption))))⟩

set_option maxHeartbeats 1000000 in
theorem l05Code_q (a b c p q r s : Int) (h : isQ a b c = false) (w : World) :
    Calls Try.prog 41 #[(.agg #[.int .i64 a, .int .i64 b, .int .i64 c]), (.agg #[.int .i64 p, .int .i64 q, .int .i64 r, .int .i64 s])] w fun e w' => e = .returned (.int .i64 1) ∧ Below w.heap.size w w' := by
  have H := Lib.hid h
  clear h
  go_enter Try.func41, Try.ntmps41
  go_wp2_with fail
  refine (l05Is_is false _ _ _ H.out _).mono ?_
  rintro e w1 ⟨rfl, hb1⟩
  go_wp2
  go_ret
  exact ⟨rfl, by repeat (first | with_reducible exact own_refl _ | with_reducible assumption | with_reducible apply own_alloc | with_reducible apply own_drewN | with_reducible apply own_drew | ((with_reducible refine own_setCell ?_ ?_ _); rotate_left; focus (first | (simp; done) | (simp; omega))) | (with_reducible (refine own_trans ?_ (by assumption))))⟩
set_option maxHeartbeats 1000000 in
theorem l05Code_m (a b c p q r s : Int) (h : isQ a b c = true) (hm : isM p q r s = false) (w : World) :
    Calls Try.prog 41 #[(.agg #[.int .i64 a, .int .i64 b, .int .i64 c]), (.agg #[.int .i64 p, .int .i64 q, .int .i64 r, .int .i64 s])] w fun e w' => e = .returned (.int .i64 1) ∧ Below w.heap.size w w' := by
  have H := Lib.hid h
  have HM := Lib.hid hm
  clear h hm
  go_enter Try.func41, Try.ntmps41
  go_wp2_with fail
  refine (l05Is_is true _ _ _ H.out _).mono ?_
  rintro e w1 ⟨rfl, hb1⟩
  have Bw1_0 : Box w1 (w.heap.size + 1) [.int .i64 p, .int .i64 q, .int .i64 r, .int .i64 s] := by refine Box.below ?_ hb1; repeat (first | with_reducible assumption | with_reducible exact Box.new _ _ _ | (with_reducible refine Box.newAt ?_ _ _; (simp; done)) | with_reducible apply Box.alloc | with_reducible apply Box.drewN | with_reducible apply Box.drew)
  obtain ⟨_, _, _, _, _, _, _, _, _⟩ := Bw1_0.four
  go_wp2_with fail
  refine (l01Is_is false _ _ _ _ _ HM.out).mono ?_
  rintro e w2 ⟨rfl, hb2⟩
  go_wp2
  go_ret
  exact ⟨rfl, by repeat (first | with_reducible exact own_refl _ | with_reducible assumption | with_reducible apply own_alloc | with_reducible apply own_drewN | with_reducible apply own_drew | ((with_reducible refine own_setCell ?_ ?_ _); rotate_left; focus (first | (simp; done) | (simp; omega))) | (with_reducible (refine own_trans ?_ (by assumption))))⟩
set_option maxHeartbeats 2000000 in
theorem l05Code_all (t : Bool) (k : Int) (a b c p q r s : Int) (h : isQ a b c = true) (hm : isM p q r s = true) (hk : allW [p, q, r, s] 1000 = t) (ht : k = if t then 0 else 2) (w : World) :
    Calls Try.prog 41 #[(.agg #[.int .i64 a, .int .i64 b, .int .i64 c]), (.agg #[.int .i64 p, .int .i64 q, .int .i64 r, .int .i64 s])] w fun e w' => e = .returned (.int .i64 k) ∧ Below w.heap.size w w' := by
  have H := Lib.hid h
  have HM := Lib.hid hm
  have hk' : (inR p (-1000) 1000 && (inR q (-1000) 1000 && (inR r (-1000) 1000 && inR s (-1000) 1000))) = t := by
    rw [← hk]; simp [allW, inW, inR]
  clear h hm hk
  rcases c1 : inR p (-1000) 1000 with _ | _
  · rw [c1] at hk'
    have : t = false := by simpa using hk'.symm
    subst this ht
    clear hk'
    go_enter Try.func41, Try.ntmps41
    go_wp2_with fail
    refine (l05Is_is true _ _ _ H.out _).mono ?_
    rintro e w1 ⟨rfl, hb1⟩
    have Bw1_0 : Box w1 (w.heap.size + 1) [.int .i64 p, .int .i64 q, .int .i64 r, .int .i64 s] := by refine Box.below ?_ hb1; repeat (first | with_reducible assumption | with_reducible exact Box.new _ _ _ | (with_reducible refine Box.newAt ?_ _ _; (simp; done)) | with_reducible apply Box.alloc | with_reducible apply Box.drewN | with_reducible apply Box.drew)
    obtain ⟨_, _, _, _, _, _, _, _, _⟩ := Bw1_0.four
    go_wp2_with fail
    refine (l01Is_is true _ _ _ _ _ HM.out).mono ?_
    rintro e w2 ⟨rfl, hb2⟩
    have Bw2_0 : Box w2 (w.heap.size + 1) [.int .i64 p, .int .i64 q, .int .i64 r, .int .i64 s] := by refine Box.below ?_ hb2; repeat (first | with_reducible assumption | with_reducible exact Box.new _ _ _ | (with_reducible refine Box.newAt ?_ _ _; (simp; done)) | with_reducible apply Box.alloc | with_reducible apply Box.drewN | with_reducible apply Box.drew)
    obtain ⟨_, _, _, _, _, _, _, _, _⟩ := Bw2_0.four
    go_wp2_with fail
    refine wp_loop_rounds 5 ?_
    rw [rounds_succ]
    go_wp2_with (go_at_call 37; refine (l01In_any _ _ _ _).mono ?_; rintro e w1 ⟨rfl, rfl⟩)
    go_ret
    exact ⟨rfl, by repeat (first | with_reducible exact own_refl _ | with_reducible assumption | with_reducible apply own_alloc | with_reducible apply own_drewN | with_reducible apply own_drew | ((with_reducible refine own_setCell ?_ ?_ _); rotate_left; focus (first | (simp; done) | (simp; omega))) | (with_reducible (refine own_trans ?_ (by assumption))))⟩
  rcases c2 : inR q (-1000) 1000 with _ | _
  · rw [c1, c2] at hk'
    have : t = false := by simpa using hk'.symm
    subst this ht
    clear hk'
    go_enter Try.func41, Try.ntmps41
    go_wp2_with fail
    refine (l05Is_is true _ _ _ H.out _).mono ?_
    rintro e w1 ⟨rfl, hb1⟩
    have Bw1_0 : Box w1 (w.heap.size + 1) [.int .i64 p, .int .i64 q, .int .i64 r, .int .i64 s] := by refine Box.below ?_ hb1; repeat (first | with_reducible assumption | with_reducible exact Box.new _ _ _ | (with_reducible refine Box.newAt ?_ _ _; (simp; done)) | with_reducible apply Box.alloc | with_reducible apply Box.drewN | with_reducible apply Box.drew)
    obtain ⟨_, _, _, _, _, _, _, _, _⟩ := Bw1_0.four
    go_wp2_with fail
    refine (l01Is_is true _ _ _ _ _ HM.out).mono ?_
    rintro e w2 ⟨rfl, hb2⟩
    have Bw2_0 : Box w2 (w.heap.size + 1) [.int .i64 p, .int .i64 q, .int .i64 r, .int .i64 s] := by refine Box.below ?_ hb2; repeat (first | with_reducible assumption | with_reducible exact Box.new _ _ _ | (with_reducible refine Box.newAt ?_ _ _; (simp; done)) | with_reducible apply Box.alloc | with_reducible apply Box.drewN | with_reducible apply Box.drew)
    obtain ⟨_, _, _, _, _, _, _, _, _⟩ := Bw2_0.four
    go_wp2_with fail
    refine wp_loop_rounds 5 ?_
    iterate 2
      rw [rounds_succ]
      go_wp2_with (go_at_call 37; refine (l01In_any _ _ _ _).mono ?_; rintro e w1 ⟨rfl, rfl⟩)
    go_ret
    exact ⟨rfl, by repeat (first | with_reducible exact own_refl _ | with_reducible assumption | with_reducible apply own_alloc | with_reducible apply own_drewN | with_reducible apply own_drew | ((with_reducible refine own_setCell ?_ ?_ _); rotate_left; focus (first | (simp; done) | (simp; omega))) | (with_reducible (refine own_trans ?_ (by assumption))))⟩
  rcases c3 : inR r (-1000) 1000 with _ | _
  · rw [c1, c2, c3] at hk'
    have : t = false := by simpa using hk'.symm
    subst this ht
    clear hk'
    go_enter Try.func41, Try.ntmps41
    go_wp2_with fail
    refine (l05Is_is true _ _ _ H.out _).mono ?_
    rintro e w1 ⟨rfl, hb1⟩
    have Bw1_0 : Box w1 (w.heap.size + 1) [.int .i64 p, .int .i64 q, .int .i64 r, .int .i64 s] := by refine Box.below ?_ hb1; repeat (first | with_reducible assumption | with_reducible exact Box.new _ _ _ | (with_reducible refine Box.newAt ?_ _ _; (simp; done)) | with_reducible apply Box.alloc | with_reducible apply Box.drewN | with_reducible apply Box.drew)
    obtain ⟨_, _, _, _, _, _, _, _, _⟩ := Bw1_0.four
    go_wp2_with fail
    refine (l01Is_is true _ _ _ _ _ HM.out).mono ?_
    rintro e w2 ⟨rfl, hb2⟩
    have Bw2_0 : Box w2 (w.heap.size + 1) [.int .i64 p, .int .i64 q, .int .i64 r, .int .i64 s] := by refine Box.below ?_ hb2; repeat (first | with_reducible assumption | with_reducible exact Box.new _ _ _ | (with_reducible refine Box.newAt ?_ _ _; (simp; done)) | with_reducible apply Box.alloc | with_reducible apply Box.drewN | with_reducible apply Box.drew)
    obtain ⟨_, _, _, _, _, _, _, _, _⟩ := Bw2_0.four
    go_wp2_with fail
    refine wp_loop_rounds 5 ?_
    iterate 3
      rw [rounds_succ]
      go_wp2_with (go_at_call 37; refine (l01In_any _ _ _ _).mono ?_; rintro e w1 ⟨rfl, rfl⟩)
    go_ret
    exact ⟨rfl, by repeat (first | with_reducible exact own_refl _ | with_reducible assumption | with_reducible apply own_alloc | with_reducible apply own_drewN | with_reducible apply own_drew | ((with_reducible refine own_setCell ?_ ?_ _); rotate_left; focus (first | (simp; done) | (simp; omega))) | (with_reducible (refine own_trans ?_ (by assumption))))⟩
  rcases c4 : inR s (-1000) 1000 with _ | _
  · rw [c1, c2, c3, c4] at hk'
    have : t = false := by simpa using hk'.symm
    subst this ht
    clear hk'
    go_enter Try.func41, Try.ntmps41
    go_wp2_with fail
    refine (l05Is_is true _ _ _ H.out _).mono ?_
    rintro e w1 ⟨rfl, hb1⟩
    have Bw1_0 : Box w1 (w.heap.size + 1) [.int .i64 p, .int .i64 q, .int .i64 r, .int .i64 s] := by refine Box.below ?_ hb1; repeat (first | with_reducible assumption | with_reducible exact Box.new _ _ _ | (with_reducible refine Box.newAt ?_ _ _; (simp; done)) | with_reducible apply Box.alloc | with_reducible apply Box.drewN | with_reducible apply Box.drew)
    obtain ⟨_, _, _, _, _, _, _, _, _⟩ := Bw1_0.four
    go_wp2_with fail
    refine (l01Is_is true _ _ _ _ _ HM.out).mono ?_
    rintro e w2 ⟨rfl, hb2⟩
    have Bw2_0 : Box w2 (w.heap.size + 1) [.int .i64 p, .int .i64 q, .int .i64 r, .int .i64 s] := by refine Box.below ?_ hb2; repeat (first | with_reducible assumption | with_reducible exact Box.new _ _ _ | (with_reducible refine Box.newAt ?_ _ _; (simp; done)) | with_reducible apply Box.alloc | with_reducible apply Box.drewN | with_reducible apply Box.drew)
    obtain ⟨_, _, _, _, _, _, _, _, _⟩ := Bw2_0.four
    go_wp2_with fail
    refine wp_loop_rounds 5 ?_
    iterate 4
      rw [rounds_succ]
      go_wp2_with (go_at_call 37; refine (l01In_any _ _ _ _).mono ?_; rintro e w1 ⟨rfl, rfl⟩)
    go_ret
    exact ⟨rfl, by repeat (first | with_reducible exact own_refl _ | with_reducible assumption | with_reducible apply own_alloc | with_reducible apply own_drewN | with_reducible apply own_drew | ((with_reducible refine own_setCell ?_ ?_ _); rotate_left; focus (first | (simp; done) | (simp; omega))) | (with_reducible (refine own_trans ?_ (by assumption))))⟩
  · rw [c1, c2, c3, c4] at hk'
    have : t = true := by simpa using hk'.symm
    subst this ht
    clear hk'
    go_enter Try.func41, Try.ntmps41
    go_wp2_with fail
    refine (l05Is_is true _ _ _ H.out _).mono ?_
    rintro e w1 ⟨rfl, hb1⟩
    have Bw1_0 : Box w1 (w.heap.size + 1) [.int .i64 p, .int .i64 q, .int .i64 r, .int .i64 s] := by refine Box.below ?_ hb1; repeat (first | with_reducible assumption | with_reducible exact Box.new _ _ _ | (with_reducible refine Box.newAt ?_ _ _; (simp; done)) | with_reducible apply Box.alloc | with_reducible apply Box.drewN | with_reducible apply Box.drew)
    obtain ⟨_, _, _, _, _, _, _, _, _⟩ := Bw1_0.four
    go_wp2_with fail
    refine (l01Is_is true _ _ _ _ _ HM.out).mono ?_
    rintro e w2 ⟨rfl, hb2⟩
    have Bw2_0 : Box w2 (w.heap.size + 1) [.int .i64 p, .int .i64 q, .int .i64 r, .int .i64 s] := by refine Box.below ?_ hb2; repeat (first | with_reducible assumption | with_reducible exact Box.new _ _ _ | (with_reducible refine Box.newAt ?_ _ _; (simp; done)) | with_reducible apply Box.alloc | with_reducible apply Box.drewN | with_reducible apply Box.drew)
    obtain ⟨_, _, _, _, _, _, _, _, _⟩ := Bw2_0.four
    go_wp2_with fail
    refine wp_loop_rounds 5 ?_
    iterate 5
      rw [rounds_succ]
      go_wp2_with (go_at_call 37; refine (l01In_any _ _ _ _).mono ?_; rintro e w1 ⟨rfl, rfl⟩)
    go_ret
    exact ⟨rfl, by repeat (first | with_reducible exact own_refl _ | with_reducible assumption | with_reducible apply own_alloc | with_reducible apply own_drewN | with_reducible apply own_drew | ((with_reducible refine own_setCell ?_ ?_ _); rotate_left; focus (first | (simp; done) | (simp; omega))) | (with_reducible (refine own_trans ?_ (by assumption))))⟩

set_option maxHeartbeats 1000000 in
theorem withinMaxForm_no (a b c : Int) (h : allW [a, b, c] 1000000 = false) (w : World) :
    Calls Try.prog 44 #[(.agg #[.int .i64 a, .int .i64 b, .int .i64 c])] w fun e w' => e = .returned (.tuple #[(.agg #[.int .i64 0, .int .i64 0, .int .i64 0]), (.int .i64 3)]) ∧ Below w.heap.size w w' := by
  have H := Lib.hid h
  clear h
  go_enter Try.func44, Try.ntmps44
  go_wp2_with fail
  refine (allW3_is false _ _ _ _ _ H.out (by simp) (by simp) (by simp)).mono ?_
  rintro e w1 ⟨rfl, rfl⟩
  go_wp2
  exact bodyPost_ret (v := .tuple #[(.agg #[.int .i64 0, .int .i64 0, .int .i64 0]), (.int .i64 3)]) (by simp [results, Try.results44, go_sem]) rfl ⟨rfl, by repeat (first | with_reducible exact own_refl _ | with_reducible assumption | with_reducible apply own_alloc | with_reducible apply own_drewN | with_reducible apply own_drew | ((with_reducible refine own_setCell ?_ ?_ _); rotate_left; focus (first | (simp; done) | (simp; omega))) | (with_reducible (refine own_trans ?_ (by assumption))))⟩
set_option maxHeartbeats 1000000 in
theorem withinMaxForm_yes (a b c : Int) (h : allW [a, b, c] 1000000 = true) (w : World) :
    Calls Try.prog 44 #[(.agg #[.int .i64 a, .int .i64 b, .int .i64 c])] w fun e w' => e = .returned (.tuple #[(.agg #[.int .i64 a, .int .i64 b, .int .i64 c]), (.int .i64 0)]) ∧ Below w.heap.size w w' := by
  have H := Lib.hid h
  clear h
  go_enter Try.func44, Try.ntmps44
  go_wp2_with fail
  refine (allW3_is true _ _ _ _ _ H.out (by simp) (by simp) (by simp)).mono ?_
  rintro e w1 ⟨rfl, rfl⟩
  go_wp2
  exact bodyPost_ret (v := .tuple #[(.agg #[.int .i64 a, .int .i64 b, .int .i64 c]), (.int .i64 0)]) (by simp [results, Try.results44, go_sem]) rfl ⟨rfl, by repeat (first | with_reducible exact own_refl _ | with_reducible assumption | with_reducible apply own_alloc | with_reducible apply own_drewN | with_reducible apply own_drew | ((with_reducible refine own_setCell ?_ ?_ _); rotate_left; focus (first | (simp; done) | (simp; omega))) | (with_reducible (refine own_trans ?_ (by assumption))))⟩

/-- A matrix makes no form of zeros. -/
theorem made_ne {a b c p q r s : Int} (hd : p * s - q * r = 1) (h : ¬ (a = 0 ∧ b = 0 ∧ c = 0)) : ¬ (vq a b c p r = 0 ∧ mq a b c p q r s = 0 ∧ vq a b c q s = 0) := by
  rintro ⟨h1, h2, h3⟩
  refine h ⟨?_, ?_, ?_⟩
  · have : a * ((p * s - q * r) * (p * s - q * r)) = vq a b c p r * (s * s) - mq a b c p q r s * (r * s) + vq a b c q s * (r * r) := by unfold vq mq; grind
    rw [h1, h2, h3, hd] at this; simpa using this
  · have : b * ((p * s - q * r) * (p * s - q * r)) = mq a b c p q r s * (p * s + q * r) - vq a b c p r * (2 * q * s) - vq a b c q s * (2 * p * r) := by unfold vq mq; grind
    rw [h1, h2, h3, hd] at this; simpa using this
  · have : c * ((p * s - q * r) * (p * s - q * r)) = vq a b c p r * (q * q) - mq a b c p q r s * (p * q) + vq a b c q s * (p * p) := by unfold vq mq; grind
    rw [h1, h2, h3, hd] at this; simpa using this
theorem isQ_of {a b c : Int} (h : ¬ (a = 0 ∧ b = 0 ∧ c = 0)) : isQ a b c = allW [a, b, c] 1000000 := by
  rw [Bool.eq_iff_iff, allW3]
  unfold isQ
  rw [decide_eq_true_iff]
  constructor
  · rintro ⟨x, y, z, _⟩; exact ⟨x, y, z⟩
  · rintro ⟨x, y, z⟩; exact ⟨x, y, z, h⟩
end Go.Proofs.Ytfpgdbdgglbleaa
