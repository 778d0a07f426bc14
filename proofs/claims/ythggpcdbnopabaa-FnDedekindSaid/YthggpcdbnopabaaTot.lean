/- TotalOf: the sum of squares behind its interface, and contracts of both sides. -/
import Derived.Test.YthggpcdbnopabaaSmS
namespace Go.Proofs.Ythggpcdbnopabaa
open Go.ChangeShapes Go.WideShapes Go.ChangeAt Go.RowKit

/-- the sum of h and k, times 4 k k -/
def ds (h k : Int) : Int := Dd.Df (rst h k).toNat k.toNat
theorem three_ds {h k : Int} (hk : 1 ≤ k) (hc : Int.gcd h k = 1) : 3 * ds h k = k * ls h k := by
  obtain ⟨H, K, e1, e2, e3, e4, e5⟩ := ls_parts hk hc
  have h1 := Dd.three_Df (h := H) (k := K) (by omega) e4
  have h2 : ds h k = Dd.Df H K := by unfold ds; rw [← e1, ← e2]; rfl
  rw [h2, e5, ← e2]
  exact h1
theorem ds_bd {h k : Int} (hk : 1 ≤ k) (hk' : k ≤ 12) (hc : Int.gcd h k = 1) : -1728 ≤ ds h k ∧ ds h k ≤ 1728 := by
  obtain ⟨H, K, e1, e2, e3, e4, e5⟩ := ls_parts hk hc
  have h1 := Dd.Df_bd (h := H) (k := K) (by omega)
  have h2 : ds h k = Dd.Df H K := by unfold ds; rw [← e1, ← e2]; rfl
  have h3 : (K : Int) * K ≤ 144 := Int.mul_le_mul (show (K : Int) ≤ 12 by omega) (show (K : Int) ≤ 12 by omega) (by omega) (by omega)
  have h4 : (K : Int) * ((K : Int) * K) ≤ 12 * 144 := Int.mul_le_mul (by omega) h3 (Int.mul_nonneg (by omega) (by omega)) (by omega)
  rw [h2]
  omega
/-- a sum's fraction brought to the divisor 4 k k -/
theorem whole_ds {h k x y : Int} (hk : 1 ≤ k) (hc : Int.gcd h k = 1) (hx : lowP (ls h k) (12 * k) = x) (hy : lowQ (ls h k) (12 * k) = y) : 1 ≤ y ∧ (4 * k * k).tdiv y * x = ds h k ∧ 1 ≤ (4 * k * k).tdiv y ∧ (4 * k * k).tdiv y ≤ 4 * k * k := by
  have h0 : 0 < k * k := Int.mul_pos (by omega) (by omega)
  have h4 : 4 * k * k = 4 * (k * k) := Int.mul_assoc _ _ _
  have h1 := three_ds hk hc
  have h2 := low_eq (p := ls h k) (q := 12 * k) (p' := ds h k) (q' := 4 * k * k) (by omega) (by omega) (by grind)
  rw [hx, hy] at h2
  obtain ⟨g, g0, e1, e2, b0, _⟩ := low_parts (p := ds h k) (q := 4 * k * k) (by omega)
  rw [← h2.1] at e1
  rw [← h2.2] at e2 b0
  have e3 : (4 * k * k).tdiv y = g := by rw [e2]; exact Int.mul_tdiv_cancel _ (by omega)
  refine ⟨b0, by rw [e3, ← e1], by omega, ?_⟩
  rw [e3]
  have := Int.mul_le_mul_of_nonneg_left (show 1 ≤ y by omega) (Int.le_of_lt g0)
  omega
theorem sq_nn (x : Int) : 0 ≤ x * x := by
  rcases Int.le_total 0 x with h | h
  · exact Int.mul_nonneg h h
  · exact Int.mul_nonneg_of_nonpos_of_nonpos h h
theorem ls_small {h k : Int} (hk : 1 ≤ k) (hk' : k ≤ 12) (hc : Int.gcd h k = 1) : -432 ≤ ls h k ∧ ls h k ≤ 432 := by
  obtain ⟨H, K, _, h2, h3, h4, h5⟩ := ls_parts hk hc
  have h6 := Dd.Lf_bd (h := H) (k := K) (by omega) h4
  have h7 : (K : Int) * K ≤ 144 := Int.mul_le_mul (show (K : Int) ≤ 12 by omega) (show (K : Int) ≤ 12 by omega) (by omega) (by omega)
  rw [h5]
  omega
def sqD (k : Int) : List Int → Int
  | [] => 0
  | u :: us => ds u k * ds u k + sqD k us
def sqL (k : Int) : List Int → Int
  | [] => 0
  | u :: us => ls u k * ls u k + sqL k us
theorem sqD_append (k : Int) : ∀ us vs : List Int, sqD k (us ++ vs) = sqD k us + sqD k vs
  | [], vs => by simp [sqD]
  | u :: us, vs => by simp only [List.cons_append, sqD, sqD_append k us vs]; omega
theorem sqL_append (k : Int) : ∀ us vs : List Int, sqL k (us ++ vs) = sqL k us + sqL k vs
  | [], vs => by simp [sqL]
  | u :: us, vs => by simp only [List.cons_append, sqL, sqL_append k us vs]; omega
theorem sq_eq {k : Int} (hk : 1 ≤ k) : ∀ us : List Int, (∀ u ∈ us, Int.gcd u k = 1) → 9 * sqD k us = k * k * sqL k us
  | [], _ => by simp [sqD, sqL]
  | u :: us, h => by
    have h1 := sq_eq hk us (fun v hv => h v (List.mem_cons_of_mem _ hv))
    have h2 := three_ds hk (h u List.mem_cons_self)
    simp only [sqD, sqL]
    have h3 : (3 * ds u k) * (3 * ds u k) = (k * ls u k) * (k * ls u k) := by rw [h2]
    grind
theorem sqD_bd {k : Int} (hk : 1 ≤ k) (hk' : k ≤ 12) : ∀ us : List Int, (∀ u ∈ us, Int.gcd u k = 1) → 0 ≤ sqD k us ∧ sqD k us ≤ us.length * 2985984
  | [], _ => by simp [sqD]
  | u :: us, h => by
    have h1 := sqD_bd hk hk' us (fun v hv => h v (List.mem_cons_of_mem _ hv))
    have h2 := ds_bd hk hk' (h u List.mem_cons_self)
    have h3 := Dd.mul_bd (K := 1728) (by omega) h2.1 h2.2 h2.1 h2.2
    have h4 := sq_nn (ds u k) 
    simp only [sqD, List.length_cons]
    omega
theorem sqL_bd {k : Int} (hk : 1 ≤ k) (hk' : k ≤ 12) : ∀ us : List Int, (∀ u ∈ us, Int.gcd u k = 1) → 0 ≤ sqL k us ∧ sqL k us ≤ us.length * 186624
  | [], _ => by simp [sqL]
  | u :: us, h => by
    have h1 := sqL_bd hk hk' us (fun v hv => h v (List.mem_cons_of_mem _ hv))
    have h2 := ls_small hk hk' (h u List.mem_cons_self)
    have h3 := Dd.mul_bd (K := 432) (by omega) h2.1 h2.2 h2.1 h2.2
    have h4 := sq_nn (ls u k)
    simp only [sqL, List.length_cons]
    omega
theorem smL_at (k : Int) : ∀ (us : List Int) (j : Nat), j < us.length → (smL k us).getD (2 * j + 0) 0 = lowP (ls (us.getD j 0) k) (12 * k) ∧ (smL k us).getD (2 * j + 1) 0 = lowQ (ls (us.getD j 0) k) (12 * k)
  | [], j, h => by simp at h
  | u :: us, 0, h => by simp [smL]
  | u :: us, j + 1, h => by
    have h1 := smL_at k us j (by simpa using h)
    rw [show 2 * (j + 1) + 0 = (2 * j + 0) + 1 + 1 by omega, show 2 * (j + 1) + 1 = (2 * j + 1) + 1 + 1 by omega]
    simpa [smL] using h1
theorem sqCount_is (s : Int) (ad : Option Addr) (n cap : Nat) (w : World) :
    Calls Try.prog 71 #[.agg #[(.int .i64 s), .slice ad n cap]] w fun e w' => e = .returned (.int .i64 ((n : Int))) ∧ Below w.heap.size w w' := by
  go_enter Try.func71, Try.ntmps71
  go_wp2
  go_ret
  exact ⟨rfl, by repeat (first | with_reducible exact own_refl _ | with_reducible assumption | with_reducible apply own_alloc | with_reducible apply own_drewN | with_reducible apply own_drew | ((with_reducible refine own_setCell ?_ ?_ _); rotate_left; focus (first | (simp; done) | (simp; omega))) | (with_reducible (refine own_trans ?_ (by assumption))))⟩
theorem sqDiv_is (s : Int) (v : Value) (h0 : 0 ≤ s) (h1 : s ≤ 600) (w : World) :
    Calls Try.prog 72 #[.agg #[(.int .i64 s), v]] w fun e w' => e = .returned (.int .i64 (s * s)) ∧ Below w.heap.size w w' := by
  obtain ⟨_, _⟩ := prod_small h0 (show s ≤ 20000 by omega) h0 (show s ≤ 20000 by omega)
  go_enter Try.func72, Try.ntmps72
  go_wp2
  go_ret
  exact ⟨rfl, by repeat (first | with_reducible exact own_refl _ | with_reducible assumption | with_reducible apply own_alloc | with_reducible apply own_drewN | with_reducible apply own_drew | ((with_reducible refine own_setCell ?_ ?_ _); rotate_left; focus (first | (simp; done) | (simp; omega))) | (with_reducible (refine own_trans ?_ (by assumption))))⟩
set_option maxRecDepth 100000 in
set_option maxHeartbeats 2000000 in
theorem sqTerm_is (s x y z q : Int) (g n cap i : Nat) (hi : i < n) (hy : 1 ≤ y) (hz : s.tdiv y = z) (z1 : 1 ≤ z) (z2 : z ≤ 600) (hq : z * x = q) (q1 : -1728 ≤ q) (q2 : q ≤ 1728) (w : World) (c0 : w.cell? ⟨g, i * 2, none⟩ = some (.int .i64 x)) (c1 : w.cell? ⟨g, i * 2 + 1, none⟩ = some (.int .i64 y)) (lg : g < w.heap.size) :
    Calls Try.prog 73 #[.agg #[(.int .i64 s), .slice (some ⟨g, 0, none⟩) n cap], (.int .i64 ((i : Int)))] w fun e w' => e = .returned (.int .i64 (q * q)) ∧ Below w.heap.size w w' := by
  have e1 : IntKind.i64.wrap (s.tdiv y) = z := by rw [hz]; exact IntWalk.i64_in _ (by omega)
  have e2 : IntKind.i64.wrap (z * x) = q := by rw [hq]; exact IntWalk.i64_in _ (by omega)
  have m := Dd.mul_bd (x := q) (y := q) (K := 1728) (by omega) q1 q2 q1 q2
  have e3 : IntKind.i64.wrap (q * q) = q * q := IntWalk.i64_in _ (by omega)
  have hne : ¬ y = 0 := by omega
  have hg : ¬ (g = w.heap.size) := Nat.ne_of_lt lg
  clear hz hq q1 q2 m
  go_enter Try.func73, Try.ntmps73
  go_wp2
  go_quiet (fail)
  go_wp2
  go_ret
  exact ⟨rfl, by repeat (first | with_reducible exact own_refl _ | with_reducible assumption | with_reducible apply own_alloc | with_reducible apply own_drewN | with_reducible apply own_drew | ((with_reducible refine own_setCell ?_ ?_ _); rotate_left; focus (first | (simp; done) | (simp; omega))) | (with_reducible (refine own_trans ?_ (by assumption))))⟩
end Go.Proofs.Ythggpcdbnopabaa
