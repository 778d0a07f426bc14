/- runsOfPath: contract; the code of a fraction that has a path. -/
import Derived.Test.YtpglcpolbhlekaaDoorPrW
import Derived.Test.YtpglcpolbhlekaaDoorDet
namespace Go.Proofs.YtpglcpolbhlekaaDoor
open Go.ChangeShapes Go.WideShapes Go.ChangeAt Go.RowKit

theorem allWF_is (r : Bool) (a b : Int) (g : Nat) (w : World) (hr : allW [a, b] 10000 = r)
    (h0 : w.cell? ⟨g, 0, none⟩ = some (.int .i64 a)) (h1 : w.cell? ⟨g, 1, none⟩ = some (.int .i64 b)) :
    Calls Tryd.prog 53 #[.slice (some ⟨g, 0, none⟩) 2 2, (.int .i64 10000)] w fun e w' => e = .returned (.bool r) ∧ w = w' := by
  subst hr
  refine allWithin_any [a, b] 10000 (by omega) (by omega) g 0 2 (by simp) w ?_
  intro k hk
  match k, hk with
  | 0, _ => simpa using h0
  | 1, _ => simpa using h1
theorem Sl.put {w : World} {L U g : Nat} {v : Value} {xs : List Int} (h : Sl w L U v xs) (k : Nat) (hk : k < xs.length) (y : Int) {off : Nat} {n cap : Nat} (hv : v = .slice (some ⟨g, off, none⟩) n cap) :
    Sl (w.setCell ⟨g, off + k, none⟩ (.int .i64 y)) L U v (xs.set k y) := by
  obtain ⟨hu, a, cap', e, hc⟩ := h
  subst hv
  injection e with e1 e2 e3
  subst e1 e2 e3
  refine ⟨by simpa [World.setCell] using hu, _, _, by rw [List.length_set], fun h0 => ?_⟩
  obtain ⟨g', off', e, hg, hg', hr⟩ := hc (by omega)
  injection e with e
  injection e with e4 e5
  subst e4 e5
  refine ⟨_, _, rfl, hg, hg', fun j hj => ⟨?_, (World.frozen?_setCell _ _ _ _).trans (hr j (by simpa using hj)).2⟩⟩
  have hj' : j < xs.length := by simpa using hj
  by_cases e : j = k
  · subst e
    rw [World.cell?_setCell_same _ _ _ (hr j hj').1]
    simp [List.getD, hk]
  · rw [World.cell?_setCell_other _ _ _ _ (by intro he; injection he with h1 h2; omega), (hr j hj').1]
    simp [List.getD, List.getElem?_set_ne (Ne.symm e)]
theorem Sl.upto {w : World} {L U U' : Nat} {v : Value} {xs : List Int} (h : Sl w L U v xs) (h1 : U ≤ U') (h2 : U' ≤ w.heap.size) : Sl w L U' v xs := by
  obtain ⟨hu, a, cap, e, hc⟩ := h
  refine ⟨h2, a, cap, e, fun h0 => ?_⟩
  obtain ⟨g, off, e, hg, hg', r⟩ := hc h0
  exact ⟨g, off, e, hg, Nat.lt_of_lt_of_le hg' h1, r⟩
theorem implCf_is (xs : List Int) (p q : Int) (hx : cfL q.natAbs p q = xs) (hp : Ent p) (hq : Ent q) (h0 : 0 < q) (w : World) :
    Calls Tryd.prog 70 #[(.agg #[.int .i64 p, .int .i64 q])] w fun e w' => ∃ v, e = .returned v ∧ Gr w' (w.heap.size + 1) v xs ∧ Below w.heap.size w w' := hx ▸ implCf_any q.natAbs p q hp hq h0 (Nat.le_refl _) (by unfold Ent at hq; omega) w

set_option maxHeartbeats 1000000 in
theorem rop_no (p q : Int) (h : isF p q = false) (a : Addr) (w : World) (hE : Er w a) :
    Calls Tryd.prog 44 #[(.agg #[.int .i64 p, .int .i64 q])] w fun e w' => e = errPanic a ∧ Below w.heap.size w w' := by
  have H := Lib.hid h
  have HE := Lib.hid hE
  clear h hE
  go_enter Tryd.func44, Tryd.ntmps44
  go_wp2_with fail
  refine (must1_no _ p q H.out a _ (Box.newAt (by simp) _ _) ((HE.out.alloc _).alloc _)).mono ?_
  unfold errPanic
  rintro e w1 ⟨rfl, hb1⟩
  go_wp2
  exact ⟨rfl, rfl, by repeat (first | with_reducible exact own_refl _ | with_reducible assumption | with_reducible apply own_alloc | with_reducible apply own_drewN | with_reducible apply own_drew | ((with_reducible refine own_setCell ?_ ?_ _); rotate_left; focus (first | (simp; done) | (simp; omega))) | (with_reducible (refine own_trans ?_ (by assumption))))⟩
set_option maxHeartbeats 1000000 in
theorem rop_state (p q : Int) (h : isF p q = true) (hs : p ≤ 0 ∨ q = 0) (w : World) :
    Calls Tryd.prog 44 #[(.agg #[.int .i64 p, .int .i64 q])] w (RetS [] 5 w) := by
  have H := Lib.hid h
  clear h
  go_enter Tryd.func44, Tryd.ntmps44
  go_wp2_with fail
  refine (must1_yes _ p q H.out _ (Box.newAt (by simp) _ _)).mono ?_
  rintro e w1 ⟨rfl, hb1⟩
  have BA : Box w1 w.heap.size [.int .i64 p, .int .i64 q] := Box.below (Box.alloc (Box.new _ _ _) _) hb1
  obtain ⟨_, _, _, _, _⟩ := BA.two
  by_cases h1 : p ≤ 0
  · go_wp2
    go_ret2
    exact ⟨_, rfl, Sl.nil _ _ _ (Nat.le_refl _), by repeat (first | with_reducible exact own_refl _ | with_reducible assumption | with_reducible apply own_alloc | with_reducible apply own_drewN | with_reducible apply own_drew | ((with_reducible refine own_setCell ?_ ?_ _); rotate_left; focus (first | (simp; done) | (simp; omega))) | (with_reducible (refine own_trans ?_ (by assumption))))⟩
  · obtain rfl : q = 0 := by omega
    go_wp2
    go_ret2
    exact ⟨_, rfl, Sl.nil _ _ _ (Nat.le_refl _), by repeat (first | with_reducible exact own_refl _ | with_reducible assumption | with_reducible apply own_alloc | with_reducible apply own_drewN | with_reducible apply own_drew | ((with_reducible refine own_setCell ?_ ?_ _); rotate_left; focus (first | (simp; done) | (simp; omega))) | (with_reducible (refine own_trans ?_ (by assumption))))⟩
set_option maxHeartbeats 1000000 in
theorem rop_limit (p q : Int) (h : isF p q = true) (h1 : 0 < p) (h2 : (q == 0) = false) (hl : allW [p, q] 10000 = false) (w : World) :
    Calls Tryd.prog 44 #[(.agg #[.int .i64 p, .int .i64 q])] w (RetS [] 3 w) := by
  have H := Lib.hid h
  have HL := Lib.hid hl
  have h1' : ¬ p ≤ 0 := by omega
  clear h hl
  go_enter Tryd.func44, Tryd.ntmps44
  go_wp2_with fail
  refine (must1_yes _ p q H.out _ (Box.newAt (by simp) _ _)).mono ?_
  rintro e w1 ⟨rfl, hb1⟩
  have BA : Box w1 w.heap.size [.int .i64 p, .int .i64 q] := Box.below (Box.alloc (Box.new _ _ _) _) hb1
  obtain ⟨_, _, _, _, _⟩ := BA.two
  go_wp2_with fail
  refine (allWF_is false p q w.heap.size _ HL.out (by assumption) (by assumption)).mono ?_
  rintro e w2 ⟨rfl, rfl⟩
  go_wp2
  go_ret2
  exact ⟨_, rfl, Sl.nil _ _ _ (Nat.le_refl _), by repeat (first | with_reducible exact own_refl _ | with_reducible assumption | with_reducible apply own_alloc | with_reducible apply own_drewN | with_reducible apply own_drew | ((with_reducible refine own_setCell ?_ ?_ _); rotate_left; focus (first | (simp; done) | (simp; omega))) | (with_reducible (refine own_trans ?_ (by assumption))))⟩
set_option maxRecDepth 100000 in
set_option maxHeartbeats 2000000 in
theorem rop_some (p q : Int) (xs : List Int) (n : Nat) (y : Int) (h : isF p q = true) (h1 : 0 < p) (hq : 0 < q) (h2 : (q == 0) = false) (hl : allW [p, q] 10000 = true) (hx : cfL q.natAbs p q = xs) (hn : xs.length = n + 1) (hy : xs.getD n 0 - 1 = y)
    (hy1 : -1000000000 ≤ y) (hy2 : y ≤ 1000000000) (h0 : (y == 0) = false) (hn' : n ≤ 1000000) (w : World) :
    Calls Tryd.prog 44 #[(.agg #[.int .i64 p, .int .i64 q])] w (RetS (xs.set n y) 0 w) := by
  have H := Lib.hid h
  have HE := Lib.hid (isF_ent h)
  have HL := Lib.hid hl
  have HX := Lib.hid hx
  have HQ := Lib.hid hq
  have HN := Lib.hid hn
  have h1' : ¬ p ≤ 0 := by omega
  obtain ⟨x, hxn⟩ : ∃ x, xs.getD n 0 = x := ⟨_, rfl⟩
  have HXN := Lib.hid hxn
  have hxy : x - 1 = y := by rw [← hxn]; exact hy
  have hw : IntKind.i64.wrap (x - 1) = y := by rw [hxy]; exact IntWalk.i64_in _ (by omega)
  have hw2 : IntKind.i64.wrap (((n + 1 : Nat) : Int) - 1) = (n : Int) := by rw [show ((n + 1 : Nat) : Int) - 1 = n by omega]; exact IntWalk.i64_in _ (by omega)
  clear h hl hx hq hn hy hxn
  go_enter Tryd.func44, Tryd.ntmps44
  go_wp2_with fail
  refine (must1_yes _ p q H.out _ (Box.newAt (by simp) _ _)).mono ?_
  rintro e w1 ⟨rfl, hb1⟩
  have BA : Box w1 w.heap.size [.int .i64 p, .int .i64 q] := Box.below (Box.alloc (Box.new _ _ _) _) hb1
  have T1 : Below w.heap.size w w1 := by repeat (first | with_reducible exact own_refl _ | with_reducible assumption | with_reducible apply own_alloc | with_reducible apply own_drewN | with_reducible apply own_drew | ((with_reducible refine own_setCell ?_ ?_ _); rotate_left; focus (first | (simp; done) | (simp; omega))) | (with_reducible (refine own_trans ?_ (by assumption))))
  obtain ⟨_, _, _, _, _⟩ := BA.two
  go_wp2_with fail
  refine (allWF_is true p q w.heap.size _ HL.out (by assumption) (by assumption)).mono ?_
  rintro e w2 ⟨rfl, rfl⟩
  go_wp2_with fail
  refine (implCf_is xs p q HX.out HE.out.1 HE.out.2.1 HQ.out _).mono ?_
  rintro e w2 ⟨v, rfl, hG, hb2⟩
  have T2 := own_trans T1 hb2
  have hS := hG.sl
  have hS2 := hS
  obtain ⟨hu, a, cap, rfl, hc⟩ := hS2
  obtain ⟨g, off, rfl, hg, hg', hr⟩ := hc (by rw [HN.out]; omega)
  obtain ⟨c1, c2⟩ := hr n (by rw [HN.out]; omega)
  rw [HXN.out] at c1
  have hlt : w.heap.size ≤ g := by have := T1.size; omega
  have hP := (Sl.put hS n (by rw [HN.out]; omega) y rfl).weak (L' := w.heap.size) (by have := T1.size; omega)
  clear hr hc hS hG hb1 hb2 BA
  generalize hlen : xs.length = m at *
  obtain rfl : m = n + 1 := HN.out
  go_wp2
  go_ret2
  exact ⟨_, rfl, hP.upto (by simp [World.setCell]) (Nat.le_refl _), by repeat (first | with_reducible exact own_refl _ | with_reducible assumption | with_reducible apply own_alloc | with_reducible apply own_drewN | with_reducible apply own_drew | ((with_reducible refine own_setCell ?_ ?_ _); rotate_left; focus (first | (simp; done) | (simp; omega))) | (with_reducible (refine own_trans ?_ (by assumption))))⟩
set_option maxRecDepth 100000 in
set_option maxHeartbeats 2000000 in
theorem rop_zero (p q : Int) (xs : List Int) (n : Nat) (y : Int) (h : isF p q = true) (h1 : 0 < p) (hq : 0 < q) (h2 : (q == 0) = false) (hl : allW [p, q] 10000 = true) (hx : cfL q.natAbs p q = xs) (hn : xs.length = n + 1) (hy : xs.getD n 0 - 1 = y)
    (hy1 : -1000000000 ≤ y) (hy2 : y ≤ 1000000000) (h0 : (y == 0) = true) (hn' : n ≤ 1000000) (w : World) :
    Calls Tryd.prog 44 #[(.agg #[.int .i64 p, .int .i64 q])] w (RetS [] 0 w) := by
  have H := Lib.hid h
  have HE := Lib.hid (isF_ent h)
  have HL := Lib.hid hl
  have HX := Lib.hid hx
  have HQ := Lib.hid hq
  have HN := Lib.hid hn
  have h1' : ¬ p ≤ 0 := by omega
  obtain ⟨x, hxn⟩ : ∃ x, xs.getD n 0 = x := ⟨_, rfl⟩
  have HXN := Lib.hid hxn
  have hxy : x - 1 = y := by rw [← hxn]; exact hy
  have hw : IntKind.i64.wrap (x - 1) = y := by rw [hxy]; exact IntWalk.i64_in _ (by omega)
  have hw2 : IntKind.i64.wrap (((n + 1 : Nat) : Int) - 1) = (n : Int) := by rw [show ((n + 1 : Nat) : Int) - 1 = n by omega]; exact IntWalk.i64_in _ (by omega)
  clear h hl hx hq hn hy hxn
  go_enter Tryd.func44, Tryd.ntmps44
  go_wp2_with fail
  refine (must1_yes _ p q H.out _ (Box.newAt (by simp) _ _)).mono ?_
  rintro e w1 ⟨rfl, hb1⟩
  have BA : Box w1 w.heap.size [.int .i64 p, .int .i64 q] := Box.below (Box.alloc (Box.new _ _ _) _) hb1
  have T1 : Below w.heap.size w w1 := by repeat (first | with_reducible exact own_refl _ | with_reducible assumption | with_reducible apply own_alloc | with_reducible apply own_drewN | with_reducible apply own_drew | ((with_reducible refine own_setCell ?_ ?_ _); rotate_left; focus (first | (simp; done) | (simp; omega))) | (with_reducible (refine own_trans ?_ (by assumption))))
  obtain ⟨_, _, _, _, _⟩ := BA.two
  go_wp2_with fail
  refine (allWF_is true p q w.heap.size _ HL.out (by assumption) (by assumption)).mono ?_
  rintro e w2 ⟨rfl, rfl⟩
  go_wp2_with fail
  refine (implCf_is xs p q HX.out HE.out.1 HE.out.2.1 HQ.out _).mono ?_
  rintro e w2 ⟨v, rfl, hG, hb2⟩
  have T2 := own_trans T1 hb2
  have hS := hG.sl
  have hS2 := hS
  obtain ⟨hu, a, cap, rfl, hc⟩ := hS2
  obtain ⟨g, off, rfl, hg, hg', hr⟩ := hc (by rw [HN.out]; omega)
  obtain ⟨c1, c2⟩ := hr n (by rw [HN.out]; omega)
  rw [HXN.out] at c1
  have hlt : w.heap.size ≤ g := by have := T1.size; omega
  clear hr hc hS hG hb1 hb2 BA
  generalize hlen : xs.length = m at *
  obtain rfl : m = n + 1 := HN.out
  go_wp2
  go_ret2
  exact ⟨_, rfl, Sl.nil _ _ _ (Nat.le_refl _), by repeat (first | with_reducible exact own_refl _ | with_reducible assumption | with_reducible apply own_alloc | with_reducible apply own_drewN | with_reducible apply own_drew | ((with_reducible refine own_setCell ?_ ?_ _); rotate_left; focus (first | (simp; done) | (simp; omega))) | (with_reducible (refine own_trans ?_ (by assumption))))⟩

theorem given_is (p q k : Int) (hk : (isF p q = false ∧ k = 1) ∨ (isF p q = true ∧ (p ≤ 0 ∨ q = 0) ∧ k = 5) ∨ (isF p q = true ∧ 0 < p ∧ (q == 0) = false ∧ (10000 < p ∨ 10000 < q) ∧ k = 3) ∨ (isF p q = true ∧ 0 < p ∧ (q == 0) = false ∧ p ≤ 10000 ∧ q ≤ 10000 ∧ k = 0)) (w : World) :
    Calls Tryd.prog 40 #[(.agg #[.int .i64 p, .int .i64 q])] w fun e w' => e = .returned (.int .i64 k) ∧ Below w.heap.size w w' := by
  rcases hk with ⟨h, rfl⟩ | ⟨h, hs, rfl⟩ | ⟨h, h1, h2, hs, rfl⟩ | ⟨h, h1, h2, h3, h4, rfl⟩
  · have H := Lib.hid h
    clear h
    go_enter Tryd.func40, Tryd.ntmps40
    go_wp2_with fail
    refine (l03F_is false _ _ H.out _).mono ?_
    rintro e w1 ⟨rfl, hb1⟩
    go_wp2
    go_ret
    exact ⟨rfl, by repeat (first | with_reducible exact own_refl _ | with_reducible assumption | with_reducible apply own_alloc | with_reducible apply own_drewN | with_reducible apply own_drew | ((with_reducible refine own_setCell ?_ ?_ _); rotate_left; focus (first | (simp; done) | (simp; omega))) | (with_reducible (refine own_trans ?_ (by assumption))))⟩
  · have H := Lib.hid h
    clear h
    go_enter Tryd.func40, Tryd.ntmps40
    go_wp2_with fail
    refine (l03F_is true _ _ H.out _).mono ?_
    rintro e w1 ⟨rfl, hb1⟩
    have BA : Box w1 w.heap.size [.int .i64 p, .int .i64 q] := Box.below (Box.new _ _ _) hb1
    obtain ⟨_, _, _, _, _⟩ := BA.two
    by_cases h1 : p ≤ 0
    · go_wp2
      go_ret
      exact ⟨rfl, by repeat (first | with_reducible exact own_refl _ | with_reducible assumption | with_reducible apply own_alloc | with_reducible apply own_drewN | with_reducible apply own_drew | ((with_reducible refine own_setCell ?_ ?_ _); rotate_left; focus (first | (simp; done) | (simp; omega))) | (with_reducible (refine own_trans ?_ (by assumption))))⟩
    · obtain rfl : q = 0 := by omega
      go_wp2
      go_ret
      exact ⟨rfl, by repeat (first | with_reducible exact own_refl _ | with_reducible assumption | with_reducible apply own_alloc | with_reducible apply own_drewN | with_reducible apply own_drew | ((with_reducible refine own_setCell ?_ ?_ _); rotate_left; focus (first | (simp; done) | (simp; omega))) | (with_reducible (refine own_trans ?_ (by assumption))))⟩
  · have H := Lib.hid h
    have h1' : ¬ p ≤ 0 := by omega
    clear h
    go_enter Tryd.func40, Tryd.ntmps40
    go_wp2_with fail
    refine (l03F_is true _ _ H.out _).mono ?_
    rintro e w1 ⟨rfl, hb1⟩
    have BA : Box w1 w.heap.size [.int .i64 p, .int .i64 q] := Box.below (Box.new _ _ _) hb1
    obtain ⟨_, _, _, _, _⟩ := BA.two
    by_cases h3 : 10000 < p
    · go_wp2
      go_ret
      exact ⟨rfl, by repeat (first | with_reducible exact own_refl _ | with_reducible assumption | with_reducible apply own_alloc | with_reducible apply own_drewN | with_reducible apply own_drew | ((with_reducible refine own_setCell ?_ ?_ _); rotate_left; focus (first | (simp; done) | (simp; omega))) | (with_reducible (refine own_trans ?_ (by assumption))))⟩
    · have h4 : 10000 < q := by omega
      go_wp2
      go_ret
      exact ⟨rfl, by repeat (first | with_reducible exact own_refl _ | with_reducible assumption | with_reducible apply own_alloc | with_reducible apply own_drewN | with_reducible apply own_drew | ((with_reducible refine own_setCell ?_ ?_ _); rotate_left; focus (first | (simp; done) | (simp; omega))) | (with_reducible (refine own_trans ?_ (by assumption))))⟩
  · have H := Lib.hid h
    have h1' : ¬ p ≤ 0 := by omega
    have h3' : ¬ 10000 < p := by omega
    have h4' : ¬ 10000 < q := by omega
    clear h
    go_enter Tryd.func40, Tryd.ntmps40
    go_wp2_with fail
    refine (l03F_is true _ _ H.out _).mono ?_
    rintro e w1 ⟨rfl, hb1⟩
    have BA : Box w1 w.heap.size [.int .i64 p, .int .i64 q] := Box.below (Box.new _ _ _) hb1
    obtain ⟨_, _, _, _, _⟩ := BA.two
    go_wp2
    go_ret
    exact ⟨rfl, by repeat (first | with_reducible exact own_refl _ | with_reducible assumption | with_reducible apply own_alloc | with_reducible apply own_drewN | with_reducible apply own_drew | ((with_reducible refine own_setCell ?_ ?_ _); rotate_left; focus (first | (simp; done) | (simp; omega))) | (with_reducible (refine own_trans ?_ (by assumption))))⟩

theorem okRun_get {xs : List Int} : ∀ {i : Nat}, okFrom i xs = true → ∀ k, k < xs.length → 0 ≤ xs.getD k 0 ∧ xs.getD k 0 ≤ 1000000000 ∧ (i + k = 0 ∨ xs.getD k 0 ≠ 0) := by
  induction xs with
  | nil => intro i _ k hk; simp at hk
  | cons x r ih =>
    intro i h k hk
    simp only [okFrom, Bool.and_eq_true] at h
    cases k with
    | zero => simpa [List.getD, okRun] using h.1
    | succ k =>
      have := ih h.2 k (by simpa using hk)
      rw [show i + 1 + k = i + (k + 1) by omega] at this
      simpa [List.getD] using this
theorem allW_far {p q : Int} (h1 : 0 < p) (h2 : 0 ≤ q) (h : 10000 < p ∨ 10000 < q) : allW [p, q] 10000 = false := by
  simp [allW, inW]; omega
theorem allW_near {p q : Int} (h1 : 0 < p) (h2 : 0 ≤ q) (hp : p ≤ 10000) (hq : q ≤ 10000) : allW [p, q] 10000 = true := by
  simp [allW, inW]; omega
end Go.Proofs.YtpglcpolbhlekaaDoor
