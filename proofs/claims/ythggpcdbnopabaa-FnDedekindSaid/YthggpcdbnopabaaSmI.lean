/- SumsOf: the list of sums, and contracts of both sides. -/
import Derived.Test.YthggpcdbnopabaaDsS
import Derived.Test.YthggpcdbnopabaaUn
import Derived.Test.YthggpcdbnopabaaGrF
namespace Go.Proofs.Ythggpcdbnopabaa
open Go.ChangeShapes Go.WideShapes Go.ChangeAt Go.RowKit

/-- the sums of the numbers of a list and k, flat -/
def smL (k : Int) : List Int → List Int
  | [] => []
  | u :: us => lowP (ls u k) (12 * k) :: lowQ (ls u k) (12 * k) :: smL k us
theorem smL_append (k : Int) : ∀ us vs : List Int, smL k (us ++ vs) = smL k us ++ smL k vs
  | [], vs => rfl
  | u :: us, vs => by simp only [List.cons_append, smL, smL_append k us vs]
theorem smL_step {k u x y : Int} {us : List Int} {j : Nat} (hj : j < us.length) (hu : us.getD j 0 = u) (hx : lowP (ls u k) (12 * k) = x) (hy : lowQ (ls u k) (12 * k) = y) :
    smL k (us.take (j + 1)) = smL k (us.take j) ++ [x, y] := by
  have e : us[j] = u := by rw [← hu]; simp [List.getD, List.getElem?_eq_getElem hj]
  rw [List.take_succ_eq_append_getElem hj, smL_append, e, smL, smL, hx, hy]
theorem cop_gcd (n : Int) : ∀ (k : Nat) (u : Int), u ∈ cop n k → Int.gcd u n = 1
  | 0, u, h => by simp [cop] at h
  | k + 1, u, h => by
    rw [cop] at h
    split at h
    · simp only [List.mem_append, List.mem_singleton] at h
      rcases h with h | h
      · exact cop_gcd n k u h
      · rw [h]; assumption
    · exact cop_gcd n k u h
theorem mem_getD {us : List Int} {j : Nat} (hj : j < us.length) : us.getD j 0 ∈ us := by
  simp only [List.getD, List.getElem?_eq_getElem hj, Option.getD_some]
  exact List.getElem_mem hj
/-- What a call that makes a slice of fractions gives back. -/
def RetFs (n : Nat) (xs : List Int) (k : Int) (w : World) (e : Ending) (w' : World) : Prop :=
  ∃ v, e = .returned (.tuple #[v, (.int .i64 k)]) ∧ SlF w' w.heap.size w'.heap.size v n xs ∧ Below w.heap.size w w'
theorem implSums_no (k : Int) (h : ¬ (1 ≤ k ∧ k ≤ 100)) (w : World) : Calls Try.prog 18 #[(.int .i64 k)] w (RetFs 0 [] 2 w) := by
  rcases (show k < 1 ∨ (¬ k < 1 ∧ 100 < k) by omega) with hn | ⟨hn, hn'⟩
  all_goals
    clear h
    go_enter Try.func18, Try.ntmps18
    go_wp2
    go_ret2
    exact ⟨_, rfl, SlF.nil _ _ _ (Nat.le_refl _), by repeat (first | with_reducible exact own_refl _ | with_reducible assumption | with_reducible apply own_alloc | with_reducible apply own_drewN | with_reducible apply own_drew | ((with_reducible refine own_setCell ?_ ?_ _); rotate_left; focus (first | (simp; done) | (simp; omega))) | (with_reducible (refine own_trans ?_ (by assumption))))⟩
set_option maxRecDepth 100000 in
set_option maxHeartbeats 4000000 in
theorem implSums_yes (k : Int) (K N : Nat) (hK : (K : Int) = k) (h1 : 1 ≤ k) (h2 : k ≤ 100) (hN : (cop k K).length = N) (w : World) : Calls Try.prog 18 #[(.int .i64 k)] w (RetFs N (smL k (cop k K)) 0 w) := by
  have h3 : ¬ k < 1 := by omega
  have h4 : ¬ 100 < k := by omega
  have hN2 : N ≤ 100 := by have := cop_len k K; omega
  have hK2 : K ≤ 100 := by omega
  have HU := Lib.hid (fun w => unitsOf_any k K hK (by omega) w)
  have HM := Lib.hid (fun u (hu : u ∈ cop k K) => And.intro (cop_mem k K u hu) (cop_gcd k K u hu))
  clear hK
  generalize cop k K = us at *
  have HN := Lib.hid hN
  go_enter Try.func18, Try.ntmps18
  go_wp2_with fail
  refine (HU.out _).mono ?_
  rintro e w1 ⟨uv, rfl, hG, hb1⟩
  obtain ⟨ad, cap, hv⟩ := hG.shape
  subst hv
  rw [hN] at hG ⊢
  clear hN
  have HS := Lib.hid hG.sl
  clear hG
  go_wp2
  go_loopw [4, 16] (fun v i wr => ∃ j : Nat, j ≤ N ∧ i = (.int .i64 ((j : Int))) ∧ GrF wr w1.heap.size v j (smL k (us.take j)) ∧ Below w1.heap.size w1 wr) (fun _ i _ => N - (intOf i).toNat)
  case atStart => exact ⟨0, Nat.zero_le _, rfl, by simpa [smL] using GrF.nil _ _, own_refl _⟩
  case round =>
    obtain ⟨j, hj, rfl, hF, T⟩ := hrel
    obtain ⟨ad2, cap2, hv⟩ := hF.shape
    subst hv
    by_cases hlt : j < N
    · have hN := HN.out
      obtain ⟨u, hu⟩ : ∃ u, us.getD j 0 = u := ⟨_, rfl⟩
      obtain ⟨-, -, hc⟩ := slice_at (HS.out.own T)
      obtain ⟨g, off, rfl, _, _, hcl⟩ := hc (by omega)
      have c0 := (hcl j (by omega)).1
      rw [hu] at c0
      clear hcl hc
      obtain ⟨hm1, hm2⟩ := HM.out u (hu ▸ mem_getD (by omega))
      obtain ⟨x, hx⟩ : ∃ x, lowP (ls u k) (12 * k) = x := ⟨_, rfl⟩
      obtain ⟨y, hy⟩ : ∃ y, lowQ (ls u k) (12 * k) = y := ⟨_, rfl⟩
      have HT := Lib.hid (smL_step (by omega) hu hx hy)
      have HD := Lib.hid (fun w => dedekindSum_is u k x y h1 (by omega) (by unfold I64; omega) hm2 hx hy w)
      clear hm1 hm2 hx hy hu hN
      have hz := T.size
      go_wp2_with fail
      refine (HD.out _).mono ?_
      rintro e w2 ⟨rfl, hb2⟩
      have hF2 := hF.own hb2
      have T2 := own_trans T hb2
      have hz2 := T2.size
      go_wp2_with (at_builtin; refine appF rfl _ _ rfl w1.heap.size w2 (.slice ad2 j cap2) j (smL k (us.take j)) x y rfl hF2 w2.heap.size rfl rfl (by omega) (by omega) ?_; intro v' w3 hF3 hb3)
      go_roundw
      case rel => exact ⟨j + 1, hlt, by go_num, by rw [HT.out]; exact hF3, T2.trans hb3⟩
      case measure => simp [intOf]; omega
    · obtain rfl : j = N := by omega
      have HE : Hid (us.take j = us) := Lib.hid (by rw [← HN.out]; exact List.take_length)
      go_wp2
      go_ret2
      exact ⟨_, rfl, by rw [← HE.out]; exact hF.sl.weak hb1.size, hb1.trans (T.mono hb1.size)⟩
end Go.Proofs.Ythggpcdbnopabaa
