/- EqualTo: contracts of both sides. -/
import Derived.Test.YthggpcdbnopabaaSmI
import Derived.Test.YthggpcdbnopabaaDsK
namespace Go.Proofs.Ythggpcdbnopabaa
open Go.ChangeShapes Go.WideShapes Go.ChangeAt Go.RowKit

/-- the numbers of a list whose sums with k are that of h and k -/
def eqL (h k : Int) : List Int → List Int
  | [] => []
  | u :: us => if ls u k = ls h k then u :: eqL h k us else eqL h k us
theorem eqL_append (h k : Int) : ∀ us vs : List Int, eqL h k (us ++ vs) = eqL h k us ++ eqL h k vs
  | [], vs => rfl
  | u :: us, vs => by
    simp only [List.cons_append, eqL, eqL_append h k us vs]
    split <;> rfl
theorem eqL_len (h k : Int) : ∀ us : List Int, (eqL h k us).length ≤ us.length
  | [] => Nat.le_refl _
  | u :: us => by
    have := eqL_len h k us
    rw [eqL]
    split <;> simp <;> omega
theorem take_step {us : List Int} {j : Nat} {u : Int} (hj : j < us.length) (hu : us.getD j 0 = u) : us.take (j + 1) = us.take j ++ [u] := by
  have e : us[j] = u := by rw [← hu]; simp [List.getD, List.getElem?_eq_getElem hj]
  rw [List.take_succ_eq_append_getElem hj, e]
theorem eqL_yes {h k u : Int} (us : List Int) (e : ls u k = ls h k) : eqL h k (us ++ [u]) = eqL h k us ++ [u] := by
  rw [eqL_append]; simp [eqL, e]
theorem eqL_no {h k u : Int} (us : List Int) (e : ¬ ls u k = ls h k) : eqL h k (us ++ [u]) = eqL h k us := by
  rw [eqL_append]; simp [eqL, e]
/-- equal sums are equal fractions -/
theorem low_same {h k u : Int} (hk : 0 < k) : decide (lowP (ls u k) (12 * k) = lowP (ls h k) (12 * k) ∧ lowQ (ls u k) (12 * k) = lowQ (ls h k) (12 * k)) = decide (ls u k = ls h k) := by
  rw [Bool.eq_iff_iff]
  simp only [decide_eq_true_eq]
  constructor
  · rintro ⟨h1, h2⟩
    exact low_inj (by omega) h1 h2
  · intro e
    rw [e]
    exact ⟨rfl, rfl⟩
theorem Sl.weakE {w : World} {L L' U : Nat} {v : Value} {xs : List Int} (h : Sl w L U v xs) (hL : L' ≤ L) : Sl w L' U v xs := by
  obtain ⟨hu, a, cap, rfl, hc⟩ := h
  refine ⟨hu, a, cap, rfl, fun h0 => ?_⟩
  obtain ⟨g, off, rfl, hg, r⟩ := hc h0
  exact ⟨g, off, rfl, Nat.le_trans hL hg, r⟩
/-- What a call that makes a slice of integers gives back. -/
def RetE (xs : List Int) (k : Int) (w : World) (e : Ending) (w' : World) : Prop :=
  ∃ v, e = .returned (.tuple #[v, (.int .i64 k)]) ∧ Sl w' w.heap.size w'.heap.size v xs ∧ Below w.heap.size w w'
theorem implEq_big (h k : Int) (hk : 100 < k) (w : World) : Calls Try.prog 13 #[(.int .i64 h), (.int .i64 k)] w (RetE [] 2 w) := by
  go_enter Try.func13, Try.ntmps13
  go_wp2
  go_ret2
  exact ⟨_, rfl, Sl.nil _ _ _ (Nat.le_refl _), by repeat (first | with_reducible exact own_refl _ | with_reducible assumption | with_reducible apply own_alloc | with_reducible apply own_drewN | with_reducible apply own_drew | ((with_reducible refine own_setCell ?_ ?_ _); rotate_left; focus (first | (simp; done) | (simp; omega))) | (with_reducible (refine own_trans ?_ (by assumption))))⟩
theorem implEq_no (h k c : Int) (hk : ¬ 100 < k) (hc0 : (c != 0) = true) (hc : ∀ w : World, Calls Try.prog 6 #[(.int .i64 h), (.int .i64 k)] w fun e w' => e = .returned (.tuple #[(.agg #[.int .i64 0, .int .i64 0]), (.int .i64 c)]) ∧ Below w.heap.size w w') (w : World) :
    Calls Try.prog 13 #[(.int .i64 h), (.int .i64 k)] w (RetE [] c w) := by
  have HC := Lib.hid hc
  clear hc
  have hc1 : (c == 0) = false := by simpa using hc0
  go_enter Try.func13, Try.ntmps13
  go_wp2_with fail
  refine (HC.out _).mono ?_
  rintro e w1 ⟨rfl, hb1⟩
  go_wp2
  go_ret2
  exact ⟨_, rfl, Sl.nil _ _ _ (Nat.le_refl _), by repeat (first | with_reducible exact own_refl _ | with_reducible assumption | with_reducible apply own_alloc | with_reducible apply own_drewN | with_reducible apply own_drew | ((with_reducible refine own_setCell ?_ ?_ _); rotate_left; focus (first | (simp; done) | (simp; omega))) | (with_reducible (refine own_trans ?_ (by assumption))))⟩
set_option maxRecDepth 100000 in
set_option maxHeartbeats 4000000 in
theorem implEq_yes (h k : Int) (K N : Nat) (hK : (K : Int) = k) (hh : inW h 1000000000 = true) (h1 : 1 ≤ k) (h2 : k ≤ 100) (hg : Int.gcd h k = 1) (hN : (cop k K).length = N) (w : World) : Calls Try.prog 13 #[(.int .i64 h), (.int .i64 k)] w (RetE (eqL h k (cop k K)) 0 w) := by
  have h4 : ¬ 100 < k := by omega
  have hN2 : N ≤ 100 := by have := cop_len k K; omega
  have hK2 : K ≤ 100 := by omega
  have HU := Lib.hid (fun w => unitsOf_any k K hK (by omega) w)
  have HM := Lib.hid (fun u (hu : u ∈ cop k K) => And.intro (cop_mem k K u hu) (cop_gcd k K u hu))
  obtain ⟨x, hx⟩ : ∃ x, lowP (ls h k) (12 * k) = x := ⟨_, rfl⟩
  obtain ⟨y, hy⟩ : ∃ y, lowQ (ls h k) (12 * k) = y := ⟨_, rfl⟩
  have HW := Lib.hid (fun w => implDed_yes h k x y hh (decide_eq_true ⟨h1, by omega⟩) hg hx hy w)
  have HXY := Lib.hid (And.intro hx hy)
  clear hK hx hy hg hh
  generalize cop k K = us at *
  have HN := Lib.hid hN
  go_enter Try.func13, Try.ntmps13
  go_wp2_with fail
  refine (HW.out _).mono ?_
  rintro e w0 ⟨rfl, hb0⟩
  go_wp2_with fail
  refine (HU.out _).mono ?_
  rintro e w1 ⟨uv, rfl, hG, hb1⟩
  have T1 : Below w.heap.size w w1 := by repeat (first | with_reducible exact own_refl _ | with_reducible assumption | with_reducible apply own_alloc | with_reducible apply own_drewN | with_reducible apply own_drew | ((with_reducible refine own_setCell ?_ ?_ _); rotate_left; focus (first | (simp; done) | (simp; omega))) | (with_reducible (refine own_trans ?_ (by assumption))))
  have BX : Box w1 w0.heap.size [.int .i64 x, .int .i64 y] := Box.below (Box.new _ _ _) hb1
  have hz1 := hb1.size
  simp only [World.size_alloc] at hz1
  clear hb1
  obtain ⟨ad, cap, hv⟩ := hG.shape
  subst hv
  rw [hN] at hG ⊢
  clear hN
  have HS := Lib.hid hG.sl
  clear hG
  generalize w0.heap.size = gx at *
  go_wp2
  go_loopw [8, 25] (fun v i wr => ∃ j : Nat, j ≤ N ∧ i = (.int .i64 ((j : Int))) ∧ Gr wr w1.heap.size v (eqL h k (us.take j)) ∧ Below w1.heap.size w1 wr) (fun _ i _ => N - (intOf i).toNat)
  case atStart => exact ⟨0, Nat.zero_le _, rfl, by simpa [eqL] using Gr.nil _ _, own_refl _⟩
  case round =>
    obtain ⟨j, hj, rfl, hF, T⟩ := hrel
    obtain ⟨c, hc⟩ : ∃ c, eqL h k (us.take j) = c := ⟨_, rfl⟩
    have hcl : c.length ≤ 100 := by
      have := eqL_len h k (us.take j)
      rw [hc, List.length_take] at this
      omega
    rw [hc] at hF
    have HC := Lib.hid hc
    clear hc
    obtain ⟨ad2, cap2, hv⟩ := hF.shape
    subst hv
    have BX1 := BX.below T
    obtain ⟨_, _, _, _, _⟩ := BX1.two
    by_cases hlt : j < N
    · have hN := HN.out
      obtain ⟨u, hu⟩ : ∃ u, us.getD j 0 = u := ⟨_, rfl⟩
      obtain ⟨-, -, hc⟩ := slice_at (HS.out.own T)
      obtain ⟨g, off, rfl, _, _, hcl⟩ := hc (by omega)
      have c0 := (hcl j (by omega)).1
      rw [hu] at c0
      clear hcl hc
      obtain ⟨hm1, hm2⟩ := HM.out u (hu ▸ mem_getD (by omega))
      obtain ⟨x', hx⟩ : ∃ x, lowP (ls u k) (12 * k) = x := ⟨_, rfl⟩
      obtain ⟨y', hy⟩ : ∃ y, lowQ (ls u k) (12 * k) = y := ⟨_, rfl⟩
      have HT := Lib.hid (take_step (by omega) hu)
      have HD := Lib.hid (fun w => dedekindSum_is u k x' y' h1 (by omega) (by unfold I64; omega) hm2 hx hy w)
      have hsame := low_same (h := h) (k := k) (u := u) (by omega)
      rw [hx, hy, HXY.out.1, HXY.out.2] at hsame
      have hu64 : 1 ≤ u ∧ u ≤ 100 := by omega
      clear hm1 hm2 hx hy hu hN
      have hz := T.size
      by_cases he : ls u k = ls h k
      · have q1 := fun w => eq_fr_is true x' y' x y (hsame.trans (decide_eq_true he)) w
        have HQ : Hid (eqL h k (us.take j ++ [u]) = c ++ [u]) := Lib.hid (by rw [eqL_yes _ he, HC.out])
        clear he hsame
        go_upto_region 10 with fail
        go_cut [33] (fun s wx => s = .bool true ∧ Below w1.heap.size w1 wx ∧ Gr wx w1.heap.size (.slice ad2 c.length cap2) c)
        case first =>
          go_region_held3 (fun w' => w'.cell? ⟨gx, 0, none⟩ = some (.int .i64 x) ∧ w'.cell? ⟨gx, 1, none⟩ = some (.int .i64 y)) (go_keep)
            (first | (go_at_call 30; refine (HD.out _).mono ?_; rintro e w2 ⟨rfl, hb2⟩
                      have hF := hF.own (by first | exact hb2 | exact Below.trans (own_drew (own_refl _)) hb2)
                      have T := (by first | exact own_trans T hb2 | exact own_trans (own_drew T) hb2 : Below w1.heap.size w1 w2)
                      obtain ⟨_, _, _, _, _⟩ := (BX.below T).two))
          all_goals
            go_wp2_with fail
            go_meet
            exact ⟨rfl, T, hF⟩
        case rest =>
          obtain ⟨rfl, T, hF⟩ := hcut
          have hz := T.size
          go_wp2_with (at_builtin; refine app64 rfl _ _ rfl w1.heap.size _ (.slice ad2 c.length cap2) c u rfl hF _ rfl rfl (by omega) (by omega) ?_; intro v' w3 hF3 hb3)
          go_roundw
          case rel => exact ⟨j + 1, hlt, by go_num, by rw [HT.out, HQ.out]; exact hF3, T.trans hb3⟩
          case measure => simp [intOf]; omega
      · have q1 := fun w => eq_fr_is false x' y' x y (hsame.trans (decide_eq_false he)) w
        have HQ : Hid (eqL h k (us.take j ++ [u]) = c) := Lib.hid (by rw [eqL_no _ he, HC.out])
        clear he hsame
        go_upto_region 10 with fail
        go_cut [33] (fun s wx => s = .bool false ∧ Below w1.heap.size w1 wx ∧ Gr wx w1.heap.size (.slice ad2 c.length cap2) c)
        case first =>
          go_region_held3 (fun w' => w'.cell? ⟨gx, 0, none⟩ = some (.int .i64 x) ∧ w'.cell? ⟨gx, 1, none⟩ = some (.int .i64 y)) (go_keep)
            (first | (go_at_call 30; refine (HD.out _).mono ?_; rintro e w2 ⟨rfl, hb2⟩
                      have hF := hF.own (by first | exact hb2 | exact Below.trans (own_drew (own_refl _)) hb2)
                      have T := (by first | exact own_trans T hb2 | exact own_trans (own_drew T) hb2 : Below w1.heap.size w1 w2)
                      obtain ⟨_, _, _, _, _⟩ := (BX.below T).two))
          all_goals
            go_wp2_with fail
            go_meet
            exact ⟨rfl, T, hF⟩
        case rest =>
          obtain ⟨rfl, T, hF⟩ := hcut
          go_wp2
          go_roundw
          case rel => exact ⟨j + 1, hlt, by go_num, by rw [HT.out, HQ.out]; exact hF, T⟩
          case measure => simp [intOf]; omega
    · obtain rfl : j = N := by omega
      have HE : Hid (us.take j = us) := Lib.hid (by rw [← HN.out]; exact List.take_length)
      go_wp2
      go_ret2
      exact ⟨_, rfl, by rw [← HE.out, HC.out]; exact hF.sl.weakE T1.size, T1.trans (T.mono T1.size)⟩
end Go.Proofs.Ythggpcdbnopabaa
