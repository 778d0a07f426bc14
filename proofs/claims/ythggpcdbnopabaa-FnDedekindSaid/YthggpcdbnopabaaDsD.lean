/- impl.dedekindSum and the model's sum, l07Sum. -/
import Derived.Test.YthggpcdbnopabaaDsA
import Derived.Test.YthggpcdbnopabaaNm
namespace Go.Proofs.Ythggpcdbnopabaa
open Go.ChangeShapes Go.WideShapes Go.ChangeAt Go.RowKit

/-- the sum of h and k, times 12 k -/
def ls (h k : Int) : Int := Dd.Lf (rst h k).toNat k.toNat
theorem gcd_rst {h k : Int} (hk : 1 ≤ k) (hc : Int.gcd h k = 1) : Int.gcd (rst h k) k = 1 := by rw [rst_emod _ _ hk, gcd_emod]; exact hc
theorem ls_parts {h k : Int} (hk : 1 ≤ k) (hc : Int.gcd h k = 1) : ∃ H K : Nat, (H : Int) = rst h k ∧ (K : Int) = k ∧ H < K ∧ Nat.gcd H K = 1 ∧ ls h k = Dd.Lf H K := by
  obtain ⟨h0, h1⟩ := rst_bd (x := h) hk
  refine ⟨(rst h k).toNat, k.toNat, by omega, by omega, by omega, ?_, rfl⟩
  have h2 := gcd_rst hk hc
  obtain ⟨a, ha⟩ : ∃ a : Nat, rst h k = a := ⟨(rst h k).toNat, by omega⟩
  obtain ⟨b, hb⟩ : ∃ b : Nat, k = b := ⟨k.toNat, by omega⟩
  rw [ha, hb] at h2 ⊢
  simpa using h2
theorem ls_bd {h k : Int} (hk : 1 ≤ k) (hk' : k ≤ 20000) (hc : Int.gcd h k = 1) : -1200000000 ≤ ls h k ∧ ls h k ≤ 1200000000 := by
  obtain ⟨H, K, _, h2, h3, h4, h5⟩ := ls_parts hk hc
  have h6 := Dd.Lf_bd (h := H) (k := K) (by omega) h4
  have h7 := prod_small (h := k) (i := k) (by omega) hk' (by omega) hk'
  rw [h5]
  rw [h2] at h6
  omega
theorem low_teeth {H K : Nat} (hK : 1 ≤ K) (hc : Nat.gcd H K = 1) : lowP (Dd.Df H K) (4 * ((K : Int) * K)) = lowP (Dd.Lf H K) (12 * K) ∧ lowQ (Dd.Df H K) (4 * ((K : Int) * K)) = lowQ (Dd.Lf H K) (12 * K) := by
  have h1 := Dd.three_Df hK hc
  have h2 : (0 : Int) < (K : Int) * K := Int.mul_pos (by omega) (by omega)
  exact low_eq (by omega) (by omega) (by grind)

theorem restsOf_is (h k : Int) (h1 : 1 ≤ k) (h2 : k ≤ 20000) (hh : I64 h) (w : World) :
    Calls Try.prog 52 #[(.int .i64 h), (.int .i64 k)] w fun e w' => e = .returned (rfn w.heap.size (w.heap.size + 1)) ∧ Box w' w.heap.size [(.int .i64 (rst h k))] ∧ Box w' (w.heap.size + 1) [(.int .i64 k)] ∧ Below w.heap.size w w' := by
  have hmf : ∀ (fn : Fn) (first cap : Array Value) (w : World), (Instr.makeFunc fn first cap).run Try.prog w = .ok (.func fn first cap) w := fun _ _ _ _ => rfl
  have HR := Lib.hid (fun w => restOf_big h k h1 (by omega) hh w)
  clear hh
  go_enter Try.func52, Try.ntmps52
  go_wp2_with fail
  refine (HR.out _).mono ?_
  rintro e w1 ⟨rfl, rfl⟩
  go_wp2
  go_ret
  exact ⟨rfl, (Box.new _ _ _).alloc _, Box.newAt (by simp) _ _, by repeat (first | with_reducible exact own_refl _ | with_reducible assumption | with_reducible apply own_alloc | with_reducible apply own_drewN | with_reducible apply own_drew | ((with_reducible refine own_setCell ?_ ?_ _); rotate_left; focus (first | (simp; done) | (simp; omega))) | (with_reducible (refine own_trans ?_ (by assumption))))⟩
set_option maxHeartbeats 1000000 in
theorem dedekindSum_is (h k x y : Int) (h1 : 1 ≤ k) (h2 : k ≤ 20000) (hh : I64 h) (hc : Int.gcd h k = 1) (hx : lowP (ls h k) (12 * k) = x) (hy : lowQ (ls h k) (12 * k) = y) (w : World) :
    Calls Try.prog 30 #[(.int .i64 h), (.int .i64 k)] w fun e w' => e = .returned (.agg #[.int .i64 x, .int .i64 y]) ∧ Below w.heap.size w w' := by
  obtain ⟨H, K, e1, e2, e3, e4, e5⟩ := ls_parts h1 hc
  have hl := low_teeth (H := H) (K := K) (by omega) e4
  rw [e5] at hx hy
  rw [e2] at hl
  have ha := (fun gh gk w B0 B1 => addUp_teeth (rst h k) k x y H K e1 e2 e3 (by omega) (hl.1.trans hx) (hl.2.trans hy) gh gk w B0 B1)
  simp only [rfn] at ha
  have HA := Lib.hid ha
  clear ha
  have HR := Lib.hid (fun w => restsOf_is h k h1 h2 hh w)
  clear hx hy hl e5 e1 e2 hh hc
  go_enter Try.func30, Try.ntmps30
  go_wp2_with fail
  refine (HR.out _).mono ?_
  rintro e w1 ⟨rfl, b0, b1, hb1⟩
  have T1 : Below w.heap.size w w1 := by repeat (first | with_reducible exact own_refl _ | with_reducible assumption | with_reducible apply own_alloc | with_reducible apply own_drewN | with_reducible apply own_drew | ((with_reducible refine own_setCell ?_ ?_ _); rotate_left; focus (first | (simp; done) | (simp; omega))) | (with_reducible (refine own_trans ?_ (by assumption))))
  have Z1 : Box w1 w.heap.size [.int .i64 0, .int .i64 0] := Box.below (Box.new _ _ _) hb1
  clear hb1
  simp only [World.size_alloc] at b0 b1
  simp only [rfn, World.size_alloc]
  go_wp2_with fail
  refine (HA.out _ _ _ b0 b1).mono ?_
  rintro e w2 ⟨rfl, hb2⟩
  have T2 := own_trans T1 hb2
  have Z2 := Z1.below hb2
  obtain ⟨_, _, _, _, _⟩ := Z2.two
  go_wp2
  obtain ⟨_, d1, d2⟩ := Z2.reads2d (.int .i64 x) (.int .i64 y)
  exact bodyPost_ret (v := (.agg #[.int .i64 x, .int .i64 y])) (by simp [results, Try.results30, go_sem, d1, d2]) rfl ⟨rfl, by repeat (first | with_reducible exact own_refl _ | with_reducible assumption | with_reducible apply own_alloc | with_reducible apply own_drewN | with_reducible apply own_drew | ((with_reducible refine own_setCell ?_ ?_ _); rotate_left; focus (first | (simp; done) | (simp; omega))) | (with_reducible (refine own_trans ?_ (by assumption))))⟩
end Go.Proofs.Ythggpcdbnopabaa
