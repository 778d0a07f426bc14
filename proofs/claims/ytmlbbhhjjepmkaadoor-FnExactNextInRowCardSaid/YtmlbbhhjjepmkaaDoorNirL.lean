/- NextInRow: both sides and the law's walk. -/
import Derived.Test.YtmlbbhhjjepmkaaDoorNir
import Derived.Test.YtmlbbhhjjepmkaaDoorRowS
import Derived.Test.YtmlbbhhjjepmkaaDoorEqF
import Derived.Test.YtmlbbhhjjepmkaaDoorDet
import Derived.Test.YtmlbbhhjjepmkaaDoorF
import Derived.Test.YtmlbbhhjjepmkaaDoorB
import Derived.Test.YtmlbbhhjjepmkaaDoorErrOf
namespace Go.Proofs.YtmlbbhhjjepmkaaDoor
open Go.ChangeShapes Go.WideShapes Go.ChangeAt Go.RowKit

set_option maxHeartbeats 1000000 in
theorem cloN_no (p q : Int) (e0 e1 : Nat) (h1 : isF p q = false) (a : Addr) (w : World) (B0 : Box w e0 [.int .i64 p, .int .i64 q]) (hE : Er w a) :
    Calls Tryd.prog 19 #[.pointer (some ⟨e0, 0, none⟩), .pointer (some ⟨e1, 0, none⟩)] w fun e w' => e = errPanic a ∧ Below w.heap.size w w' := by
  have H := Lib.hid h1
  have HE := Lib.hid hE
  clear h1 hE
  obtain ⟨_, _, _, _, _⟩ := B0.two
  go_enter Tryd.func19, Tryd.ntmps19
  go_wp2_with fail
  refine (must1_no _ p q H.out a _ (Box.newAt (by simp) _ _) (((HE.out.alloc _).alloc _).alloc _)).mono ?_
  unfold errPanic
  rintro e w1 ⟨rfl, hb1⟩
  go_wp2
  exact ⟨rfl, rfl, by repeat (first | with_reducible exact own_refl _ | with_reducible assumption | with_reducible apply own_alloc | with_reducible apply own_drewN | with_reducible apply own_drew | ((with_reducible refine own_setCell ?_ ?_ _); rotate_left; focus (first | (simp; done) | (simp; omega))) | (with_reducible (refine own_trans ?_ (by assumption))))⟩
set_option maxHeartbeats 2000000 in
theorem cloN_range (n a b : Int) (e0 e1 : Nat) (h : isF a b = true) (ho : ¬ nirOk n a b) (w : World) (B0 : Box w e0 [.int .i64 a, .int .i64 b]) (B1 : Box w e1 [(.int .i64 n)]) :
    Calls Tryd.prog 19 #[.pointer (some ⟨e0, 0, none⟩), .pointer (some ⟨e1, 0, none⟩)] w fun e w' => e = .returned (.tuple #[(.agg #[.int .i64 0, .int .i64 0]), (.int .i64 2)]) ∧ Below w.heap.size w w' := by
  have H := Lib.hid h
  have hcase : n < 1 ∨ 1000 < n ∨ a < 0 ∨ b < a ∨ n < b := by unfold nirOk at ho; omega
  clear h ho
  obtain ⟨_, _, _, _, _⟩ := B0.two
  obtain ⟨_, _, _⟩ := B1.one
  go_enter Tryd.func19, Tryd.ntmps19
  go_wp2_with fail
  refine (must1_yes _ a b H.out _ (Box.newAt (by simp) _ _)).mono ?_
  rintro e w1 ⟨rfl, hb1⟩
  have T1 : Below w.heap.size w w1 := by repeat (first | with_reducible exact own_refl _ | with_reducible assumption | with_reducible apply own_alloc | with_reducible apply own_drewN | with_reducible apply own_drew | ((with_reducible refine own_setCell ?_ ?_ _); rotate_left; focus (first | (simp; done) | (simp; omega))) | (with_reducible (refine own_trans ?_ (by assumption))))
  have C0 := B0.below T1
  have C1 := B1.below T1
  have Z0 : Box w1 w.heap.size [.int .i64 0, .int .i64 0] := Box.below (Box.alloc (Box.alloc (Box.new _ _ _) _) _) hb1
  have Z1 : Box w1 (w.heap.size + 1) [(.int .i64 0)] := Box.below (Box.alloc (Box.newAt (by simp) _ _) _) hb1
  obtain ⟨_, _, _, _, _⟩ := C0.two
  obtain ⟨_, _, _⟩ := C1.one
  obtain ⟨_, _, _, _, _⟩ := Z0.two
  obtain ⟨_, _, _⟩ := Z1.one
  have V0 : Box (((w1.setCell ⟨w.heap.size, 0, none⟩ (.int .i64 0)).setCell ⟨w.heap.size, 1, none⟩ (.int .i64 0)).setCell ⟨w.heap.size + 1, 0, none⟩ (.int .i64 2)) w.heap.size [.int .i64 0, .int .i64 0] := Box.far (Box.put2 Z0 (.int .i64 0) (.int .i64 0)) (by dsimp only; omega) _
  have V1 : Box (((w1.setCell ⟨w.heap.size, 0, none⟩ (.int .i64 0)).setCell ⟨w.heap.size, 1, none⟩ (.int .i64 0)).setCell ⟨w.heap.size + 1, 0, none⟩ (.int .i64 2)) (w.heap.size + 1) [(.int .i64 2)] :=
    Box.set ((Z1.far (p := ⟨w.heap.size, 0, none⟩) (by dsimp only; omega) (.int .i64 0)).far (p := ⟨w.heap.size, 1, none⟩) (by dsimp only; omega) (.int .i64 0)) 0 (by simp) (.int .i64 2)
  obtain ⟨_, z0, z1, _, _⟩ := V0.two
  obtain ⟨_, z2, _⟩ := V1.one
  have ZZ := Lib.hid (And.intro z0 (And.intro z1 z2))
  clear z0 z1 z2 V0 V1
  by_cases c1 : n < 1
  · go_wp2
    exact bodyPost_ret (v := .tuple #[(.agg #[.int .i64 0, .int .i64 0]), (.int .i64 2)]) (by simp [results, Tryd.results19, go_sem, ZZ.out.1, ZZ.out.2.1, ZZ.out.2.2]) rfl ⟨rfl, by repeat (first | with_reducible exact own_refl _ | with_reducible assumption | with_reducible apply own_alloc | with_reducible apply own_drewN | with_reducible apply own_drew | ((with_reducible refine own_setCell ?_ ?_ _); rotate_left; focus (first | (simp; done) | (simp; omega))) | (with_reducible (refine own_trans ?_ (by assumption))))⟩
  by_cases c2 : 1000 < n
  · go_wp2
    exact bodyPost_ret (v := .tuple #[(.agg #[.int .i64 0, .int .i64 0]), (.int .i64 2)]) (by simp [results, Tryd.results19, go_sem, ZZ.out.1, ZZ.out.2.1, ZZ.out.2.2]) rfl ⟨rfl, by repeat (first | with_reducible exact own_refl _ | with_reducible assumption | with_reducible apply own_alloc | with_reducible apply own_drewN | with_reducible apply own_drew | ((with_reducible refine own_setCell ?_ ?_ _); rotate_left; focus (first | (simp; done) | (simp; omega))) | (with_reducible (refine own_trans ?_ (by assumption))))⟩
  by_cases c3 : a < 0
  · go_wp2
    exact bodyPost_ret (v := .tuple #[(.agg #[.int .i64 0, .int .i64 0]), (.int .i64 2)]) (by simp [results, Tryd.results19, go_sem, ZZ.out.1, ZZ.out.2.1, ZZ.out.2.2]) rfl ⟨rfl, by repeat (first | with_reducible exact own_refl _ | with_reducible assumption | with_reducible apply own_alloc | with_reducible apply own_drewN | with_reducible apply own_drew | ((with_reducible refine own_setCell ?_ ?_ _); rotate_left; focus (first | (simp; done) | (simp; omega))) | (with_reducible (refine own_trans ?_ (by assumption))))⟩
  by_cases c4 : b < a
  · go_wp2
    exact bodyPost_ret (v := .tuple #[(.agg #[.int .i64 0, .int .i64 0]), (.int .i64 2)]) (by simp [results, Tryd.results19, go_sem, ZZ.out.1, ZZ.out.2.1, ZZ.out.2.2]) rfl ⟨rfl, by repeat (first | with_reducible exact own_refl _ | with_reducible assumption | with_reducible apply own_alloc | with_reducible apply own_drewN | with_reducible apply own_drew | ((with_reducible refine own_setCell ?_ ?_ _); rotate_left; focus (first | (simp; done) | (simp; omega))) | (with_reducible (refine own_trans ?_ (by assumption))))⟩
  have c5 : n < b := by omega
  go_wp2
  exact bodyPost_ret (v := .tuple #[(.agg #[.int .i64 0, .int .i64 0]), (.int .i64 2)]) (by simp [results, Tryd.results19, go_sem, ZZ.out.1, ZZ.out.2.1, ZZ.out.2.2]) rfl ⟨rfl, by repeat (first | with_reducible exact own_refl _ | with_reducible assumption | with_reducible apply own_alloc | with_reducible apply own_drewN | with_reducible apply own_drew | ((with_reducible refine own_setCell ?_ ?_ _); rotate_left; focus (first | (simp; done) | (simp; omega))) | (with_reducible (refine own_trans ?_ (by assumption))))⟩
set_option maxHeartbeats 1000000 in
theorem implNir_ok (n p q r0 r1 c : Int) (hclo : ∀ (w0 : World) (e0 e1 : Nat), Box w0 e0 [.int .i64 p, .int .i64 q] → Box w0 e1 [(.int .i64 n)] → Calls Tryd.prog 19 #[.pointer (some ⟨e0, 0, none⟩), .pointer (some ⟨e1, 0, none⟩)] w0 fun e w' => e = .returned (.tuple #[(.agg #[.int .i64 r0, .int .i64 r1]), (.int .i64 c)]) ∧ Below w0.heap.size w0 w') (w : World) :
    Calls Tryd.prog 8 #[(.int .i64 n), (.agg #[.int .i64 p, .int .i64 q])] w fun e w' => e = .returned (.tuple #[(.agg #[.int .i64 r0, .int .i64 r1]), (.int .i64 c)]) ∧ Below w.heap.size w w' := by
  have hmf : ∀ (fn : Fn) (first cap : Array Value) (w : World), (Instr.makeFunc fn first cap).run Tryd.prog w = .ok (.func fn first cap) w := fun _ _ _ _ => rfl
  have HC := Lib.hid hclo
  clear hclo
  go_enter Tryd.func8, Tryd.ntmps8
  go_wp2_with fail
  refine (doorF_yes _ _ r0 r1 c _ (fun _ => by kernel_rfl) (fun w0 hb0 => HC.out w0 (w.heap.size + 1) w.heap.size ((Box.alloc (Box.newAt (by simp) _ _) _).below hb0) (((Box.alloc (Box.alloc (Box.new _ _ _) _) _)).below hb0))).mono ?_
  rintro e w1 ⟨rfl, hb1⟩
  have R1 : Box w1 (w.heap.size + 1 + 1) [.int .i64 0, .int .i64 0] := Box.below (Box.newAt (by simp) _ _) hb1
  obtain ⟨_, _, _, _, _⟩ := R1.two
  go_wp2
  obtain ⟨_, z0, z1, _, _⟩ := (R1.put2 (.int .i64 r0) (.int .i64 r1)).two
  exact bodyPost_ret (v := .tuple #[(.agg #[.int .i64 r0, .int .i64 r1]), (.int .i64 c)]) (by simp [results, Tryd.results8, go_sem, z0, z1]) rfl ⟨rfl, by repeat (first | with_reducible exact own_refl _ | with_reducible assumption | with_reducible apply own_alloc | with_reducible apply own_drewN | with_reducible apply own_drew | ((with_reducible refine own_setCell ?_ ?_ _); rotate_left; focus (first | (simp; done) | (simp; omega))) | (with_reducible (refine own_trans ?_ (by assumption))))⟩
set_option maxHeartbeats 1000000 in
theorem implNir_no (n p q : Int) (h : isF p q = false) (a : Addr) (w : World) (hE : Er w a) :
    Calls Tryd.prog 8 #[(.int .i64 n), (.agg #[.int .i64 p, .int .i64 q])] w fun e w' => e = .returned (.tuple #[(.agg #[.int .i64 0, .int .i64 0]), (.int .i64 1)]) ∧ Below w.heap.size w w' := by
  have hmf : ∀ (fn : Fn) (first cap : Array Value) (w : World), (Instr.makeFunc fn first cap).run Tryd.prog w = .ok (.func fn first cap) w := fun _ _ _ _ => rfl
  have H := Lib.hid h
  have HE := Lib.hid hE
  clear h hE
  go_enter Tryd.func8, Tryd.ntmps8
  go_wp2_with fail
  refine (doorF_no _ _ a _ (fun _ => by kernel_rfl) (fun w0 hb0 => cloN_no p q (w.heap.size + 1) w.heap.size H.out a w0 ((Box.alloc (Box.newAt (by simp) _ _) _).below hb0) ((((HE.out.alloc _).alloc _).alloc _).below hb0))).mono ?_
  rintro e w1 ⟨rfl, hb1⟩
  have R1 : Box w1 (w.heap.size + 1 + 1) [.int .i64 0, .int .i64 0] := Box.below (Box.newAt (by simp) _ _) hb1
  obtain ⟨_, _, _, _, _⟩ := R1.two
  go_wp2
  obtain ⟨_, z0, z1, _, _⟩ := (R1.put2 (.int .i64 0) (.int .i64 0)).two
  exact bodyPost_ret (v := .tuple #[(.agg #[.int .i64 0, .int .i64 0]), (.int .i64 1)]) (by simp [results, Tryd.results8, go_sem, z0, z1]) rfl ⟨rfl, by repeat (first | with_reducible exact own_refl _ | with_reducible assumption | with_reducible apply own_alloc | with_reducible apply own_drewN | with_reducible apply own_drew | ((with_reducible refine own_setCell ?_ ?_ _); rotate_left; focus (first | (simp; done) | (simp; omega))) | (with_reducible (refine own_trans ?_ (by assumption))))⟩
theorem inR_isN (r : Bool) (x lo hi : Int) (h : inR x lo hi = r) (w : World) : Calls Tryd.prog 16 #[(.int .i64 x), (.int .i64 lo), (.int .i64 hi)] w fun e w' => e = .returned (.bool r) ∧ w = w' := l01In_is r x lo hi h w
set_option maxHeartbeats 1000000 in
theorem specNir_no (n a b : Int) (h : isF a b = false) (w : World) :
    Calls Tryd.prog 6 #[(.int .i64 n), (.agg #[.int .i64 a, .int .i64 b])] w fun e w' => e = .returned (.tuple #[(.agg #[.int .i64 0, .int .i64 0]), (.int .i64 1)]) ∧ Below w.heap.size w w' := by
  have H := Lib.hid h
  clear h
  go_enter Tryd.func6, Tryd.ntmps6
  go_wp2_with fail
  refine (l03F_is false _ _ H.out _).mono ?_
  rintro e w1 ⟨rfl, hb1⟩
  have Z0 : Box w1 (w.heap.size + 1) [.int .i64 0, .int .i64 0] := Box.below (Box.newAt (by simp) _ _) hb1
  obtain ⟨_, _, _, _, _⟩ := Z0.two
  go_wp2
  obtain ⟨_, z0, z1, _, _⟩ := (Z0.put2 (.int .i64 0) (.int .i64 0)).two
  exact bodyPost_ret (v := .tuple #[(.agg #[.int .i64 0, .int .i64 0]), (.int .i64 1)]) (by simp [results, Tryd.results6, go_sem, z0, z1]) rfl ⟨rfl, by repeat (first | with_reducible exact own_refl _ | with_reducible assumption | with_reducible apply own_alloc | with_reducible apply own_drewN | with_reducible apply own_drew | ((with_reducible refine own_setCell ?_ ?_ _); rotate_left; focus (first | (simp; done) | (simp; omega))) | (with_reducible (refine own_trans ?_ (by assumption))))⟩
set_option maxHeartbeats 2000000 in
theorem specNir_range (n a b : Int) (h : isF a b = true) (ho : ¬ nirOk n a b) (w : World) :
    Calls Tryd.prog 6 #[(.int .i64 n), (.agg #[.int .i64 a, .int .i64 b])] w fun e w' => e = .returned (.tuple #[(.agg #[.int .i64 0, .int .i64 0]), (.int .i64 2)]) ∧ Below w.heap.size w w' := by
  have H := Lib.hid h
  have hb := isF_entN h
  rcases h1 : inR n 1 1000 with _ | _
  · have H1 := Lib.hid h1
    clear h h1 ho
    go_enter Tryd.func6, Tryd.ntmps6
    go_wp2_with fail
    refine (l03F_is true _ _ H.out _).mono ?_
    rintro e w1 ⟨rfl, hb1⟩
    have C0 : Box w1 w.heap.size [.int .i64 a, .int .i64 b] := Box.below (Box.alloc (Box.new _ _ _) _) hb1
    have Z0 : Box w1 (w.heap.size + 1) [.int .i64 0, .int .i64 0] := Box.below (Box.newAt (by simp) _ _) hb1
    obtain ⟨_, _, _, _, _⟩ := C0.two
    obtain ⟨_, _, _, _, _⟩ := Z0.two
    go_wp2_with fail
    refine (inR_isN false _ _ _ H1.out _).mono ?_
    rintro e w2 ⟨rfl, rfl⟩
    go_wp2
    obtain ⟨_, z0, z1, _, _⟩ := (Z0.put2 (.int .i64 0) (.int .i64 0)).two
    exact bodyPost_ret (v := .tuple #[(.agg #[.int .i64 0, .int .i64 0]), (.int .i64 2)]) (by simp [results, Tryd.results6, go_sem, z0, z1]) rfl ⟨rfl, by repeat (first | with_reducible exact own_refl _ | with_reducible assumption | with_reducible apply own_alloc | with_reducible apply own_drewN | with_reducible apply own_drew | ((with_reducible refine own_setCell ?_ ?_ _); rotate_left; focus (first | (simp; done) | (simp; omega))) | (with_reducible (refine own_trans ?_ (by assumption))))⟩
  rcases h2 : inR b 1 n with _ | _
  · have H1 := Lib.hid h1
    have H2 := Lib.hid h2
    clear h h1 h2 ho
    go_enter Tryd.func6, Tryd.ntmps6
    go_wp2_with fail
    refine (l03F_is true _ _ H.out _).mono ?_
    rintro e w1 ⟨rfl, hb1⟩
    have C0 : Box w1 w.heap.size [.int .i64 a, .int .i64 b] := Box.below (Box.alloc (Box.new _ _ _) _) hb1
    have Z0 : Box w1 (w.heap.size + 1) [.int .i64 0, .int .i64 0] := Box.below (Box.newAt (by simp) _ _) hb1
    obtain ⟨_, _, _, _, _⟩ := C0.two
    obtain ⟨_, _, _, _, _⟩ := Z0.two
    go_wp2_with fail
    refine (inR_isN true _ _ _ H1.out _).mono ?_
    rintro e w2 ⟨rfl, rfl⟩
    go_wp2_with fail
    refine (inR_isN false _ _ _ H2.out _).mono ?_
    rintro e w2 ⟨rfl, rfl⟩
    go_wp2
    obtain ⟨_, z0, z1, _, _⟩ := (Z0.put2 (.int .i64 0) (.int .i64 0)).two
    exact bodyPost_ret (v := .tuple #[(.agg #[.int .i64 0, .int .i64 0]), (.int .i64 2)]) (by simp [results, Tryd.results6, go_sem, z0, z1]) rfl ⟨rfl, by repeat (first | with_reducible exact own_refl _ | with_reducible assumption | with_reducible apply own_alloc | with_reducible apply own_drewN | with_reducible apply own_drew | ((with_reducible refine own_setCell ?_ ?_ _); rotate_left; focus (first | (simp; done) | (simp; omega))) | (with_reducible (refine own_trans ?_ (by assumption))))⟩
  rcases h3 : inR a 0 b with _ | _
  · have H1 := Lib.hid h1
    have H2 := Lib.hid h2
    have H3 := Lib.hid h3
    clear h h1 h2 h3 ho
    go_enter Tryd.func6, Tryd.ntmps6
    go_wp2_with fail
    refine (l03F_is true _ _ H.out _).mono ?_
    rintro e w1 ⟨rfl, hb1⟩
    have C0 : Box w1 w.heap.size [.int .i64 a, .int .i64 b] := Box.below (Box.alloc (Box.new _ _ _) _) hb1
    have Z0 : Box w1 (w.heap.size + 1) [.int .i64 0, .int .i64 0] := Box.below (Box.newAt (by simp) _ _) hb1
    obtain ⟨_, _, _, _, _⟩ := C0.two
    obtain ⟨_, _, _, _, _⟩ := Z0.two
    go_wp2_with fail
    refine (inR_isN true _ _ _ H1.out _).mono ?_
    rintro e w2 ⟨rfl, rfl⟩
    go_wp2_with fail
    refine (inR_isN true _ _ _ H2.out _).mono ?_
    rintro e w2 ⟨rfl, rfl⟩
    go_wp2_with fail
    refine (inR_isN false _ _ _ H3.out _).mono ?_
    rintro e w2 ⟨rfl, rfl⟩
    go_wp2
    obtain ⟨_, z0, z1, _, _⟩ := (Z0.put2 (.int .i64 0) (.int .i64 0)).two
    exact bodyPost_ret (v := .tuple #[(.agg #[.int .i64 0, .int .i64 0]), (.int .i64 2)]) (by simp [results, Tryd.results6, go_sem, z0, z1]) rfl ⟨rfl, by repeat (first | with_reducible exact own_refl _ | with_reducible assumption | with_reducible apply own_alloc | with_reducible apply own_drewN | with_reducible apply own_drew | ((with_reducible refine own_setCell ?_ ?_ _); rotate_left; focus (first | (simp; done) | (simp; omega))) | (with_reducible (refine own_trans ?_ (by assumption))))⟩
  · exfalso
    obtain ⟨a1, a2⟩ := of_decide_eq_true h1
    obtain ⟨b1, b2⟩ := of_decide_eq_true h2
    obtain ⟨c1, c2⟩ := of_decide_eq_true h3
    exact ho ⟨a1, a2, c1, c2, b2⟩
set_option maxHeartbeats 2000000 in
theorem specNir_yes (n a b : Int) (h : isF a b = true) (ho : nirOk n a b) (r0 r1 k : Int) (hres : ((a = 1 ∧ b = 1) ∧ r0 = 0 ∧ r1 = 0 ∧ k = 4) ∨ (¬ (a = 1 ∧ b = 1) ∧ k = 0 ∧ ∃ pre, RowSt n pre a b r0 r1)) (w : World) :
    Calls Tryd.prog 6 #[(.int .i64 n), (.agg #[.int .i64 a, .int .i64 b])] w fun e w' => e = .returned (.tuple #[(.agg #[.int .i64 r0, .int .i64 r1]), (.int .i64 k)]) ∧ Below w.heap.size w w' := by
  have H := Lib.hid h
  have hb := isF_entN h
  obtain ⟨hn1, hn2, ha0, hab, hbn⟩ := ho
  have H1 := Lib.hid (show inR n 1 1000 = true from decide_eq_true ⟨hn1, hn2⟩)
  have H2 := Lib.hid (show inR b 1 n = true from decide_eq_true ⟨by omega, hbn⟩)
  have H3 := Lib.hid (show inR a 0 b = true from decide_eq_true ⟨ha0, hab⟩)
  have heq : ∀ w, (Op.equalIn 10000 23 (.agg #[.int .i64 a, .int .i64 b]) (.agg #[.int .i64 1, .int .i64 1])).run Tryd.prog w = .ok (decide (a = 1 ∧ b = 1)) w := fun w => eq_fr a b 1 1 w
  clear h
  rcases hres with ⟨hone, rfl, rfl, rfl⟩ | ⟨hone, rfl, pre, hst⟩
  · have heq' : ∀ w, (Op.equalIn 10000 23 (.agg #[.int .i64 a, .int .i64 b]) (.agg #[.int .i64 1, .int .i64 1])).run Tryd.prog w = .ok true w := fun w => by rw [heq w, decide_eq_true hone]
    clear heq hone
    go_enter Tryd.func6, Tryd.ntmps6
    go_wp2_with fail
    refine (l03F_is true _ _ H.out _).mono ?_
    rintro e w1 ⟨rfl, hb1⟩
    have C0 : Box w1 w.heap.size [.int .i64 a, .int .i64 b] := Box.below (Box.alloc (Box.new _ _ _) _) hb1
    have Z0 : Box w1 (w.heap.size + 1) [.int .i64 0, .int .i64 0] := Box.below (Box.newAt (by simp) _ _) hb1
    obtain ⟨_, _, _, _, _⟩ := C0.two
    obtain ⟨_, _, _, _, _⟩ := Z0.two
    go_wp2_with fail
    refine (inR_isN true _ _ _ H1.out _).mono ?_
    rintro e w2 ⟨rfl, rfl⟩
    go_wp2_with fail
    refine (inR_isN true _ _ _ H2.out _).mono ?_
    rintro e w2 ⟨rfl, rfl⟩
    go_wp2_with fail
    refine (inR_isN true _ _ _ H3.out _).mono ?_
    rintro e w2 ⟨rfl, rfl⟩
    go_wp2
    obtain ⟨_, z0, z1, _, _⟩ := (Z0.put2 (.int .i64 0) (.int .i64 0)).two
    exact bodyPost_ret (v := .tuple #[(.agg #[.int .i64 0, .int .i64 0]), (.int .i64 4)]) (by simp [results, Tryd.results6, go_sem, z0, z1]) rfl ⟨rfl, by repeat (first | with_reducible exact own_refl _ | with_reducible assumption | with_reducible apply own_alloc | with_reducible apply own_drewN | with_reducible apply own_drew | ((with_reducible refine own_setCell ?_ ?_ _); rotate_left; focus (first | (simp; done) | (simp; omega))) | (with_reducible (refine own_trans ?_ (by assumption))))⟩
  · have heq' : ∀ w, (Op.equalIn 10000 23 (.agg #[.int .i64 a, .int .i64 b]) (.agg #[.int .i64 1, .int .i64 1])).run Tryd.prog w = .ok false w := fun w => by rw [heq w, decide_eq_false hone]
    have HN := Lib.hid (fun w => specNext n a b r0 r1 hst.row hone hn2 w)
    clear heq hone hst
    go_enter Tryd.func6, Tryd.ntmps6
    go_wp2_with fail
    refine (l03F_is true _ _ H.out _).mono ?_
    rintro e w1 ⟨rfl, hb1⟩
    have C0 : Box w1 w.heap.size [.int .i64 a, .int .i64 b] := Box.below (Box.alloc (Box.new _ _ _) _) hb1
    have Z0 : Box w1 (w.heap.size + 1) [.int .i64 0, .int .i64 0] := Box.below (Box.newAt (by simp) _ _) hb1
    obtain ⟨_, _, _, _, _⟩ := C0.two
    obtain ⟨_, _, _, _, _⟩ := Z0.two
    go_wp2_with fail
    refine (inR_isN true _ _ _ H1.out _).mono ?_
    rintro e w2 ⟨rfl, rfl⟩
    go_wp2_with fail
    refine (inR_isN true _ _ _ H2.out _).mono ?_
    rintro e w2 ⟨rfl, rfl⟩
    go_wp2_with fail
    refine (inR_isN true _ _ _ H3.out _).mono ?_
    rintro e w2 ⟨rfl, rfl⟩
    go_wp2_with fail
    refine (HN.out _).mono ?_
    rintro e w3 ⟨rfl, hb3⟩
    have Z3 := Z0.below hb3
    obtain ⟨_, _, _, _, _⟩ := Z3.two
    go_wp2
    obtain ⟨_, z0, z1, _, _⟩ := (Z3.put2 (.int .i64 r0) (.int .i64 r1)).two
    exact bodyPost_ret (v := .tuple #[(.agg #[.int .i64 r0, .int .i64 r1]), (.int .i64 0)]) (by simp [results, Tryd.results6, go_sem, z0, z1]) rfl ⟨rfl, by repeat (first | with_reducible exact own_refl _ | with_reducible assumption | with_reducible apply own_alloc | with_reducible apply own_drewN | with_reducible apply own_drew | ((with_reducible refine own_setCell ?_ ?_ _); rotate_left; focus (first | (simp; done) | (simp; omega))) | (with_reducible (refine own_trans ?_ (by assumption))))⟩
set_option maxHeartbeats 2000000 in
theorem lawNextInRow_of (n p q : Int) (r0 r1 k : Int) (ea : Addr)
    (hs : ∀ w : World, Calls Tryd.prog 6 #[(.int .i64 n), (.agg #[.int .i64 p, .int .i64 q])] w fun e w' => e = .returned (.tuple #[(.agg #[.int .i64 r0, .int .i64 r1]), (.int .i64 k)]) ∧ Below w.heap.size w w')
    (hi : ∀ w : World, Er w ea → Calls Tryd.prog 8 #[(.int .i64 n), (.agg #[.int .i64 p, .int .i64 q])] w fun e w' => e = .returned (.tuple #[(.agg #[.int .i64 r0, .int .i64 r1]), (.int .i64 k)]) ∧ Below w.heap.size w w') (w : World) (hE : Er w ea) :
    Calls Tryd.prog 3 #[(.int .i64 n), (.agg #[.int .i64 p, .int .i64 q])] w fun e w' => e = .returned (.bool true) ∧ Below w.heap.size w w' := by
  have HS := Lib.hid hs
  have HI := Lib.hid hi
  clear hs hi
  go_enter Tryd.func3, Tryd.ntmps3
  go_wp2_with fail
  refine (toFraction_any _ _ _).mono ?_
  rintro e w1 ⟨rfl, hb1⟩
  have T1 : Below w.heap.size w w1 := by repeat (first | with_reducible exact own_refl _ | with_reducible assumption | with_reducible apply own_alloc | with_reducible apply own_drewN | with_reducible apply own_drew | ((with_reducible refine own_setCell ?_ ?_ _); rotate_left; focus (first | (simp; done) | (simp; omega))) | (with_reducible (refine own_trans ?_ (by assumption))))
  have A1 : Box w1 w.heap.size [.int .i64 p, .int .i64 q] := (Box.new _ _ _).below hb1
  obtain ⟨_, _, _, _, _⟩ := A1.two
  go_wp2_with fail
  refine (HS.out _).mono ?_
  rintro e w2 ⟨rfl, hb2⟩
  have T2 := own_trans T1 hb2
  have A2 := (A1.below hb2).alloc (.cells #[.int .i64 r0, .int .i64 r1] 23)
  have X2 : Box (w2.alloc (.cells #[.int .i64 r0, .int .i64 r1] 23)) w2.heap.size [.int .i64 r0, .int .i64 r1] := Box.new _ _ _
  have TW : Below w.heap.size w (w2.alloc (.cells #[.int .i64 r0, .int .i64 r1] 23)) := own_alloc T2 _
  obtain ⟨_, _, _, _, _⟩ := A2.two
  go_wp2_with fail
  refine (toFraction_any _ _ _).mono ?_
  rintro e w3 ⟨rfl, hb3⟩
  have X3 := X2.below hb3
  have T3 := own_trans TW hb3
  go_wp2_with fail
  refine (HI.out _ (hE.below T3)).mono ?_
  rintro e w4 ⟨rfl, hb4⟩
  have X4 := (X3.below hb4).alloc (.cells #[.int .i64 r0, .int .i64 r1] 23)
  have P4 : Box (w4.alloc (.cells #[.int .i64 r0, .int .i64 r1] 23)) w4.heap.size [.int .i64 r0, .int .i64 r1] := Box.new _ _ _
  have T4 := own_alloc (own_trans T3 hb4) (.cells #[.int .i64 r0, .int .i64 r1] 23)
  obtain ⟨_, _, _, _, _⟩ := X4.two
  obtain ⟨_, _, _, _, _⟩ := P4.two
  go_wp2_with fail
  refine (eqFraction_same _ _ _).mono ?_
  rintro e w5 ⟨rfl, hb5⟩
  go_wp2
  go_ret
  exact ⟨rfl, own_trans T4 hb5⟩
open Classical in
theorem lawNextInRow_walk (n a b : Int) (_ : I64 n) (_ : I64 a) (_ : I64 b) (w : World) (ea : Addr) (hE : Er w ea) :
    Calls Tryd.prog 3 #[(.int .i64 n), (.agg #[.int .i64 a, .int .i64 b])] w fun e w' => e = .returned (.bool true) ∧ Below w.heap.size w w' := by
  rcases h : isF a b with _ | _
  · exact lawNextInRow_of n a b 0 0 1 ea (fun w => specNir_no n a b h w) (fun w hE => implNir_no n a b h ea w hE) w hE
  by_cases ho : nirOk n a b
  · have hb := isF_entN h
    by_cases hone : a = 1 ∧ b = 1
    · exact lawNextInRow_of n a b 0 0 4 ea (fun w => specNir_yes n a b h ho 0 0 4 (.inl ⟨hone, rfl, rfl, rfl⟩) w)
        (fun w _ => implNir_ok n a b 0 0 4 (fun w0 e0 e1 B0 B1 => cloN_yes n a b h ho 0 0 4 (.inl ⟨hone, rfl, rfl, rfl⟩) e0 e1 w0 B0 B1) w) w hE
    · obtain ⟨hn1, hn2, ha0, hab, hbn⟩ := id ho
      obtain ⟨pre, r, s, hst⟩ := row_met (n := n) ha0 hab (by omega) hbn hb.2
      exact lawNextInRow_of n a b r s 0 ea (fun w => specNir_yes n a b h ho r s 0 (.inr ⟨hone, rfl, pre, hst⟩) w)
        (fun w _ => implNir_ok n a b r s 0 (fun w0 e0 e1 B0 B1 => cloN_yes n a b h ho r s 0 (.inr ⟨hone, rfl, pre, hst⟩) e0 e1 w0 B0 B1) w) w hE
  · exact lawNextInRow_of n a b 0 0 2 ea (fun w => specNir_range n a b h ho w) (fun w _ => implNir_ok n a b 0 0 2 (fun w0 e0 e1 B0 B1 => cloN_range n a b e0 e1 h ho w0 B0 B1) w) w hE
end Go.Proofs.YtmlbbhhjjepmkaaDoor
