/- Contracts of ConjugateBy and CommutatorOf. -/
import Derived.Test.YtamibhpaamhjmaaDoorProd
import Derived.Test.YtamibhpaamhjmaaDoorInv
namespace Go.Proofs.YtamibhpaamhjmaaDoor
open Go.ChangeShapes Go.WideShapes Go.ChangeAt Go.RowKit

/-- the inverse as the program reckons it, of any four int64 numbers -/
def Mat.inv (m : Mat) : Mat := ⟨m.d, wrap64 (-m.b), wrap64 (-m.c), m.a⟩
theorem Mat.inv_of (m : Mat) (h : m.is = true) : m.inv = ⟨m.d, -m.b, -m.c, m.a⟩ := by
  obtain ⟨_, ⟨_, _⟩, ⟨_, _⟩, _, _⟩ := Mat.is_ent h
  unfold Mat.inv
  rw [IntWalk.wrap64_in _ (by omega), IntWalk.wrap64_in _ (by omega)]
theorem Mat.inv_is (m : Mat) (h : m.is = true) : m.inv.is = true := by
  rw [Mat.inv_of m h]
  obtain ⟨⟨_, _⟩, ⟨_, _⟩, ⟨_, _⟩, ⟨_, _⟩, hd⟩ := Mat.is_ent h
  refine decide_eq_true ⟨by constructor <;> assumption, by constructor <;> (dsimp only; omega), by constructor <;> (dsimp only; omega), by constructor <;> assumption, ?_⟩
  dsimp only
  rw [Int.neg_mul_neg, Int.mul_comm m.d m.a]
  exact hd

set_option maxHeartbeats 400000 in
theorem implInverse_gen (m : Mat) (w : World) :
    Calls Tryd.prog 31 #[(.agg #[.int .i64 m.a, .int .i64 m.b, .int .i64 m.c, .int .i64 m.d])] w fun e w' => e = .returned (.agg #[.int .i64 m.inv.a, .int .i64 m.inv.b, .int .i64 m.inv.c, .int .i64 m.inv.d]) ∧ Below w.heap.size w w' := by
  go_enter Tryd.func31, Tryd.ntmps31
  go_wp2
  exact bodyPost_ret (v := (.agg #[.int .i64 m.inv.a, .int .i64 m.inv.b, .int .i64 m.inv.c, .int .i64 m.inv.d])) (by simp [results, Tryd.results31, go_sem, Mat.inv]) rfl ⟨rfl, by repeat (first | with_reducible exact own_refl _ | with_reducible assumption | with_reducible apply own_alloc | with_reducible apply own_drewN | with_reducible apply own_drew | ((with_reducible refine own_setCell ?_ ?_ _); rotate_left; focus (first | (simp; done) | (simp; omega))) | (with_reducible (refine own_trans ?_ (by assumption))))⟩
theorem specInverse_m (m : Mat) (h : m.is = true) (w : World) :
    Calls Tryd.prog 27 #[(.agg #[.int .i64 m.a, .int .i64 m.b, .int .i64 m.c, .int .i64 m.d])] w fun e w' => e = .returned (.agg #[.int .i64 m.inv.a, .int .i64 m.inv.b, .int .i64 m.inv.c, .int .i64 m.inv.d]) ∧ Below w.heap.size w w' := by
  rw [Mat.inv_of m h]
  obtain ⟨_, eb, ec, _, _⟩ := Mat.is_ent h
  exact specInverse_ent _ _ _ _ eb ec w

set_option maxHeartbeats 4000000 in
theorem implConj_any (m n r : Mat) (k : Int) (h : PA [n, m, n.inv] r k) (w : World) (hid : Idn w) :
    Calls Tryd.prog 20 #[(.agg #[.int .i64 m.a, .int .i64 m.b, .int .i64 m.c, .int .i64 m.d]), (.agg #[.int .i64 n.a, .int .i64 n.b, .int .i64 n.c, .int .i64 n.d])] w fun e w' => e = .returned (.tuple #[(.agg #[.int .i64 r.a, .int .i64 r.b, .int .i64 r.c, .int .i64 r.d]), (.int .i64 k)]) ∧ Below w.heap.size w w' := by
  have H := Lib.hid h
  clear h
  go_enter Tryd.func20, Tryd.ntmps20
  go_upto_region 1 with fail
  have T : Below w.heap.size w (((w.alloc (.cells #[.int .i64 m.a, .int .i64 m.b, .int .i64 m.c, .int .i64 m.d] 23)).alloc (.cells #[.int .i64 n.a, .int .i64 n.b, .int .i64 n.c, .int .i64 n.d] 23)).alloc (.cells #[.int .i64 0, .int .i64 0, .int .i64 0, .int .i64 0] 23)) := own_alloc (own_alloc (own_alloc (own_refl _) _) _) _
  have IX : Idn (((w.alloc (.cells #[.int .i64 m.a, .int .i64 m.b, .int .i64 m.c, .int .i64 m.d] 23)).alloc (.cells #[.int .i64 n.a, .int .i64 n.b, .int .i64 n.c, .int .i64 n.d] 23)).alloc (.cells #[.int .i64 0, .int .i64 0, .int .i64 0, .int .i64 0] 23)) := (((Rd.alloc hid _).alloc _).alloc _)
  have BA : Box (((w.alloc (.cells #[.int .i64 m.a, .int .i64 m.b, .int .i64 m.c, .int .i64 m.d] 23)).alloc (.cells #[.int .i64 n.a, .int .i64 n.b, .int .i64 n.c, .int .i64 n.d] 23)).alloc (.cells #[.int .i64 0, .int .i64 0, .int .i64 0, .int .i64 0] 23)) w.heap.size [.int .i64 m.a, .int .i64 m.b, .int .i64 m.c, .int .i64 m.d] := Box.alloc (Box.alloc (Box.new _ _ _) _) _
  have BB : Box (((w.alloc (.cells #[.int .i64 m.a, .int .i64 m.b, .int .i64 m.c, .int .i64 m.d] 23)).alloc (.cells #[.int .i64 n.a, .int .i64 n.b, .int .i64 n.c, .int .i64 n.d] 23)).alloc (.cells #[.int .i64 0, .int .i64 0, .int .i64 0, .int .i64 0] 23)) (w.heap.size + 1) [.int .i64 n.a, .int .i64 n.b, .int .i64 n.c, .int .i64 n.d] := Box.alloc (Box.newAt (by simp) _ _) _
  have BR : Box (((w.alloc (.cells #[.int .i64 m.a, .int .i64 m.b, .int .i64 m.c, .int .i64 m.d] 23)).alloc (.cells #[.int .i64 n.a, .int .i64 n.b, .int .i64 n.c, .int .i64 n.d] 23)).alloc (.cells #[.int .i64 0, .int .i64 0, .int .i64 0, .int .i64 0] 23)) (w.heap.size + 1 + 1) [.int .i64 0, .int .i64 0, .int .i64 0, .int .i64 0] := Box.newAt (by simp) _ _
  have m1 : ¬ (w.heap.size + 1 + 1 = w.heap.size) := by omega
  go_cut [5] (fun s5 wx => s5 = (.int .i64 k) ∧ Below w.heap.size w wx ∧ Box wx (w.heap.size + 1 + 1) [.int .i64 r.a, .int .i64 r.b, .int .i64 r.c, .int .i64 r.d])
  case first =>
    go_region_held3 (fun w' => w'.cell? ⟨w.heap.size, 0, none⟩ = some (.int .i64 m.a) ∧ w'.cell? ⟨w.heap.size, 1, none⟩ = some (.int .i64 m.b) ∧ w'.cell? ⟨w.heap.size, 2, none⟩ = some (.int .i64 m.c) ∧ w'.cell? ⟨w.heap.size, 3, none⟩ = some (.int .i64 m.d) ∧ w'.cell? ⟨w.heap.size + 1, 0, none⟩ = some (.int .i64 n.a) ∧ w'.cell? ⟨w.heap.size + 1, 1, none⟩ = some (.int .i64 n.b) ∧ w'.cell? ⟨w.heap.size + 1, 2, none⟩ = some (.int .i64 n.c) ∧ w'.cell? ⟨w.heap.size + 1, 3, none⟩ = some (.int .i64 n.d)) (go_keep)
      (first
      | (go_at_call 31; refine (implInverse_gen _ _).mono ?_; rintro e w1 ⟨rfl, hb1⟩; have T := (by first | exact own_trans T hb1 | exact own_trans (own_drew T) hb1 | exact own_trans (own_drew (own_alloc T _)) hb1 | exact own_trans (own_alloc T _) hb1 | exact own_trans (own_drew (own_alloc (own_alloc T _) _)) hb1 | exact own_trans (own_alloc (own_alloc T _) _) hb1 : Below w.heap.size w w1); have BA := Box.below (by first | exact BA | exact Box.drew BA | exact Box.drew (Box.alloc BA _) | exact Box.alloc BA _ | exact Box.drew (Box.alloc (Box.alloc BA _) _) | exact Box.alloc (Box.alloc BA _) _) hb1; obtain ⟨_, _, _, _, _, _, _, _, _⟩ := BA.four; have BB := Box.below (by first | exact BB | exact Box.drew BB | exact Box.drew (Box.alloc BB _) | exact Box.alloc BB _ | exact Box.drew (Box.alloc (Box.alloc BB _) _) | exact Box.alloc (Box.alloc BB _) _) hb1; obtain ⟨_, _, _, _, _, _, _, _, _⟩ := BB.four; have BR := Box.below (by first | exact BR | exact Box.drew BR | exact Box.drew (Box.alloc BR _) | exact Box.alloc BR _ | exact Box.drew (Box.alloc (Box.alloc BR _) _) | exact Box.alloc (Box.alloc BR _) _) hb1; obtain ⟨z, d0, d1, d2, d3, f0, f1, f2, f3⟩ := BR.four; have n1 : ¬ (w1.heap.size = w.heap.size) := Nat.ne_of_gt BA.1; have n2 : ¬ (w1.heap.size = w.heap.size + 1) := Nat.ne_of_gt BB.1; have n3 : ¬ (w1.heap.size = w.heap.size + 1 + 1) := Nat.ne_of_gt BR.1; have n4 : ¬ (w1.heap.size + 1 = w.heap.size) := (by have := BA.1; omega); have IX : Idn w1 := Rd.below (by first | exact IX | exact Rd.drew IX | exact Rd.drew (Rd.alloc IX _) | exact Rd.alloc IX _ | exact Rd.drew (Rd.alloc (Rd.alloc IX _) _) | exact Rd.alloc (Rd.alloc IX _) _) hb1)
      | (go_at_call 25; refine (prodAll_any [n, m, n.inv] _ 3 (by simp) r k H.out _ (by first | exact IX | exact Rd.drew IX | exact Rd.drew (Rd.alloc IX _) | exact Rd.alloc IX _ | exact Rd.drew (Rd.alloc (Rd.alloc IX _) _) | exact Rd.alloc (Rd.alloc IX _) _) (by first | exact Box.new _ _ _ | exact Box.drew (Box.new _ _ _) | exact Box.newAt (by simp) _ _)).mono ?_; rintro e w1 ⟨rfl, hb1⟩; have T := (by first | exact own_trans T hb1 | exact own_trans (own_drew T) hb1 | exact own_trans (own_drew (own_alloc T _)) hb1 | exact own_trans (own_alloc T _) hb1 | exact own_trans (own_drew (own_alloc (own_alloc T _) _)) hb1 | exact own_trans (own_alloc (own_alloc T _) _) hb1 : Below w.heap.size w w1); have BA := Box.below (by first | exact BA | exact Box.drew BA | exact Box.drew (Box.alloc BA _) | exact Box.alloc BA _ | exact Box.drew (Box.alloc (Box.alloc BA _) _) | exact Box.alloc (Box.alloc BA _) _) hb1; obtain ⟨_, _, _, _, _, _, _, _, _⟩ := BA.four; have BB := Box.below (by first | exact BB | exact Box.drew BB | exact Box.drew (Box.alloc BB _) | exact Box.alloc BB _ | exact Box.drew (Box.alloc (Box.alloc BB _) _) | exact Box.alloc (Box.alloc BB _) _) hb1; obtain ⟨_, _, _, _, _, _, _, _, _⟩ := BB.four; have BR := Box.below (by first | exact BR | exact Box.drew BR | exact Box.drew (Box.alloc BR _) | exact Box.alloc BR _ | exact Box.drew (Box.alloc (Box.alloc BR _) _) | exact Box.alloc (Box.alloc BR _) _) hb1; obtain ⟨z, d0, d1, d2, d3, f0, f1, f2, f3⟩ := BR.four; have n1 : ¬ (w1.heap.size = w.heap.size) := Nat.ne_of_gt BA.1; have n2 : ¬ (w1.heap.size = w.heap.size + 1) := Nat.ne_of_gt BB.1; have n3 : ¬ (w1.heap.size = w.heap.size + 1 + 1) := Nat.ne_of_gt BR.1; have n4 : ¬ (w1.heap.size + 1 = w.heap.size) := (by have := BA.1; omega)))
    all_goals
      go_wp2_with fail
      go_meet
      exact ⟨rfl, by repeat (first | with_reducible exact own_refl _ | with_reducible assumption | with_reducible apply own_alloc | with_reducible apply own_drewN | with_reducible apply own_drew | ((with_reducible refine own_setCell ?_ ?_ _); rotate_left; focus (first | (simp; done) | (simp; omega))) | (with_reducible (refine own_trans ?_ (by assumption)))), BR.put4 _ _ _ _⟩
  case rest =>
    obtain ⟨rfl, T, BR⟩ := hcut
    obtain ⟨z, d0, d1, d2, d3, f0, f1, f2, f3⟩ := BR.four
    go_wp2
    exact bodyPost_ret (v := .tuple #[(.agg #[.int .i64 r.a, .int .i64 r.b, .int .i64 r.c, .int .i64 r.d]), (.int .i64 k)]) (by simp [results, Tryd.results20, go_sem, d0, d1, d2, d3]) rfl ⟨rfl, T⟩

set_option maxHeartbeats 4000000 in
theorem specConj_yes (m n r : Mat) (k : Int) (hm : m.is = true) (hn : n.is = true) (h : SP [n, m, n.inv] r k) (w : World) :
    Calls Tryd.prog 19 #[(.agg #[.int .i64 m.a, .int .i64 m.b, .int .i64 m.c, .int .i64 m.d]), (.agg #[.int .i64 n.a, .int .i64 n.b, .int .i64 n.c, .int .i64 n.d])] w fun e w' => e = .returned (.tuple #[(.agg #[.int .i64 r.a, .int .i64 r.b, .int .i64 r.c, .int .i64 r.d]), (.int .i64 k)]) ∧ Below w.heap.size w w' := by
  have H := Lib.hid h
  have HA := Lib.hid (show [n, m, n.inv].all Mat.is = true by simp [hm, hn, Mat.inv_is])
  have Hm := Lib.hid hm
  have Hn := Lib.hid hn
  clear h hm hn
  go_enter Tryd.func19, Tryd.ntmps19
  go_wp2_with fail
  refine (l01Is_m true m Hm.out _).mono ?_
  rintro e w1 ⟨rfl, hb1⟩
  have R1 : Box w1 (w.heap.size + 1 + 1) [.int .i64 0, .int .i64 0, .int .i64 0, .int .i64 0] := Box.below (Box.newAt (by simp) _ _) hb1
  have N1 : Box w1 (w.heap.size + 1) [.int .i64 n.a, .int .i64 n.b, .int .i64 n.c, .int .i64 n.d] := Box.below (Box.alloc (Box.newAt (by simp) _ _) _) hb1
  have M1 : Box w1 w.heap.size [.int .i64 m.a, .int .i64 m.b, .int .i64 m.c, .int .i64 m.d] := Box.below (Box.alloc (Box.alloc (Box.newAt (by simp) _ _) _) _) hb1
  obtain ⟨_, _, _, _, _, _, _, _, _⟩ := N1.four
  go_wp2_with fail
  refine (l01Is_m true n Hn.out _).mono ?_
  rintro e w2 ⟨rfl, hb2⟩
  have BB := N1.below hb2
  have BA := M1.below hb2
  have BR := R1.below hb2
  have T : Below w.heap.size w w2 := own_trans (own_trans (own_alloc (own_alloc (own_alloc (own_refl _) _) _) _) hb1) hb2
  obtain ⟨_, _, _, _, _, _, _, _, _⟩ := BB.four
  obtain ⟨_, _, _, _, _, _, _, _, _⟩ := BA.four
  obtain ⟨_, _, _, _, _, _, _, _, _⟩ := BR.four
  have n1 : ¬ (w2.heap.size = w.heap.size) := Nat.ne_of_gt BA.1
  have n2 : ¬ (w2.heap.size = w.heap.size + 1) := Nat.ne_of_gt BB.1
  have n3 : ¬ (w2.heap.size = w.heap.size + 1 + 1) := Nat.ne_of_gt BR.1
  have n4 : ¬ (w2.heap.size + 1 = w.heap.size) := by have := BA.1; omega
  clear hb1 hb2 M1 N1 R1
  go_upto_region 3 with fail
  go_cut [6, 7] (fun s6 s7 wx => ∃ g : Nat, s6 = .pointer (some ⟨g, 0, none⟩) ∧ s7 = (.int .i64 k) ∧ Below w.heap.size w wx ∧ Box wx (w.heap.size + 1 + 1) [.int .i64 0, .int .i64 0, .int .i64 0, .int .i64 0] ∧ Box wx g [.int .i64 r.a, .int .i64 r.b, .int .i64 r.c, .int .i64 r.d])
  case first =>
    go_region_held3 (fun w' => w'.cell? ⟨w.heap.size, 0, none⟩ = some (.int .i64 m.a) ∧ w'.cell? ⟨w.heap.size, 1, none⟩ = some (.int .i64 m.b) ∧ w'.cell? ⟨w.heap.size, 2, none⟩ = some (.int .i64 m.c) ∧ w'.cell? ⟨w.heap.size, 3, none⟩ = some (.int .i64 m.d) ∧ w'.cell? ⟨w.heap.size + 1, 0, none⟩ = some (.int .i64 n.a) ∧ w'.cell? ⟨w.heap.size + 1, 1, none⟩ = some (.int .i64 n.b) ∧ w'.cell? ⟨w.heap.size + 1, 2, none⟩ = some (.int .i64 n.c) ∧ w'.cell? ⟨w.heap.size + 1, 3, none⟩ = some (.int .i64 n.d)) (go_keep)
      (first
      | (go_at_call 27; refine (specInverse_m _ (by first | exact Hm.out | exact Hn.out) _).mono ?_; rintro e w1 ⟨rfl, hb1⟩; have T := (by first | exact own_trans T hb1 | exact own_trans (own_drew T) hb1 | exact own_trans (own_drew (own_alloc T _)) hb1 | exact own_trans (own_alloc T _) hb1 | exact own_trans (own_drew (own_alloc (own_alloc T _) _)) hb1 | exact own_trans (own_alloc (own_alloc T _) _) hb1 : Below w.heap.size w w1); have BA := Box.below (by first | exact BA | exact Box.drew BA | exact Box.drew (Box.alloc BA _) | exact Box.alloc BA _ | exact Box.drew (Box.alloc (Box.alloc BA _) _) | exact Box.alloc (Box.alloc BA _) _) hb1; obtain ⟨_, _, _, _, _, _, _, _, _⟩ := BA.four; have BB := Box.below (by first | exact BB | exact Box.drew BB | exact Box.drew (Box.alloc BB _) | exact Box.alloc BB _ | exact Box.drew (Box.alloc (Box.alloc BB _) _) | exact Box.alloc (Box.alloc BB _) _) hb1; obtain ⟨_, _, _, _, _, _, _, _, _⟩ := BB.four; have BR := Box.below (by first | exact BR | exact Box.drew BR | exact Box.drew (Box.alloc BR _) | exact Box.alloc BR _ | exact Box.drew (Box.alloc (Box.alloc BR _) _) | exact Box.alloc (Box.alloc BR _) _) hb1; obtain ⟨z, d0, d1, d2, d3, f0, f1, f2, f3⟩ := BR.four; have n1 : ¬ (w1.heap.size = w.heap.size) := Nat.ne_of_gt BA.1; have n2 : ¬ (w1.heap.size = w.heap.size + 1) := Nat.ne_of_gt BB.1; have n3 : ¬ (w1.heap.size = w.heap.size + 1 + 1) := Nat.ne_of_gt BR.1; have n4 : ¬ (w1.heap.size + 1 = w.heap.size) := (by have := BA.1; omega); first | (have Z := Box.below (by first | exact Z | exact Box.drew Z | exact Box.drew (Box.alloc Z _) | exact Box.alloc Z _ | exact Box.drew (Box.alloc (Box.alloc Z _) _) | exact Box.alloc (Box.alloc Z _) _) hb1; obtain ⟨_, _, _, _, _, _, _, _, _⟩ := Z.four) | (have Z : Box w1 _ [.int .i64 0, .int .i64 0, .int .i64 0, .int .i64 0] := Box.below (by first | exact Box.new _ _ _ | exact Box.drew (Box.new _ _ _) | exact Box.alloc (Box.new _ _ _) _ | exact Box.drew (Box.alloc (Box.new _ _ _) _)) hb1; (try simp only [World.size_alloc] at Z); obtain ⟨_, _, _, _, _, _, _, _, _⟩ := Z.four) | skip)
      | (go_at_call 24; refine (specProd_any [n, m, n.inv] _ 3 (by simp) r k HA.out H.out _ (by first | exact Box.new _ _ _ | exact Box.drew (Box.new _ _ _) | exact Box.newAt (by simp) _ _ | exact Box.alloc (Box.new _ _ _) _ | exact Box.drew (Box.alloc (Box.new _ _ _) _))).mono ?_; rintro e w1 ⟨rfl, hb1⟩; have T := (by first | exact own_trans T hb1 | exact own_trans (own_drew T) hb1 | exact own_trans (own_drew (own_alloc T _)) hb1 | exact own_trans (own_alloc T _) hb1 | exact own_trans (own_drew (own_alloc (own_alloc T _) _)) hb1 | exact own_trans (own_alloc (own_alloc T _) _) hb1 : Below w.heap.size w w1); have BA := Box.below (by first | exact BA | exact Box.drew BA | exact Box.drew (Box.alloc BA _) | exact Box.alloc BA _ | exact Box.drew (Box.alloc (Box.alloc BA _) _) | exact Box.alloc (Box.alloc BA _) _) hb1; obtain ⟨_, _, _, _, _, _, _, _, _⟩ := BA.four; have BB := Box.below (by first | exact BB | exact Box.drew BB | exact Box.drew (Box.alloc BB _) | exact Box.alloc BB _ | exact Box.drew (Box.alloc (Box.alloc BB _) _) | exact Box.alloc (Box.alloc BB _) _) hb1; obtain ⟨_, _, _, _, _, _, _, _, _⟩ := BB.four; have BR := Box.below (by first | exact BR | exact Box.drew BR | exact Box.drew (Box.alloc BR _) | exact Box.alloc BR _ | exact Box.drew (Box.alloc (Box.alloc BR _) _) | exact Box.alloc (Box.alloc BR _) _) hb1; obtain ⟨z, d0, d1, d2, d3, f0, f1, f2, f3⟩ := BR.four; have n1 : ¬ (w1.heap.size = w.heap.size) := Nat.ne_of_gt BA.1; have n2 : ¬ (w1.heap.size = w.heap.size + 1) := Nat.ne_of_gt BB.1; have n3 : ¬ (w1.heap.size = w.heap.size + 1 + 1) := Nat.ne_of_gt BR.1; have n4 : ¬ (w1.heap.size + 1 = w.heap.size) := (by have := BA.1; omega); first | (have Z := Box.below (by first | exact Z | exact Box.drew Z | exact Box.drew (Box.alloc Z _) | exact Box.alloc Z _ | exact Box.drew (Box.alloc (Box.alloc Z _) _) | exact Box.alloc (Box.alloc Z _) _) hb1; obtain ⟨_, _, _, _, _, _, _, _, _⟩ := Z.four) | (have Z : Box w1 _ [.int .i64 0, .int .i64 0, .int .i64 0, .int .i64 0] := Box.below (by first | exact Box.new _ _ _ | exact Box.drew (Box.new _ _ _) | exact Box.alloc (Box.new _ _ _) _ | exact Box.drew (Box.alloc (Box.new _ _ _) _)) hb1; (try simp only [World.size_alloc] at Z); obtain ⟨_, _, _, _, _, _, _, _, _⟩ := Z.four) | skip))
    all_goals
      go_wp2_with fail
      go_meet
      first
        | exact ⟨_, rfl, rfl, own_alloc T _, BR.alloc _, Box.new _ _ _⟩
        | exact ⟨_, rfl, rfl, by repeat (first | with_reducible exact own_refl _ | with_reducible assumption | with_reducible apply own_alloc | with_reducible apply own_drewN | with_reducible apply own_drew | ((with_reducible refine own_setCell ?_ ?_ _); rotate_left; focus (first | (simp; done) | (simp; omega))) | (with_reducible (refine own_trans ?_ (by assumption)))), (((BR.far (by dsimp only; omega) _).far (by dsimp only; omega) _).far (by dsimp only; omega) _).far (by dsimp only; omega) _, Z.put4 _ _ _ _⟩
  case rest =>
    obtain ⟨g, rfl, rfl, T, BR, BG⟩ := hcut
    obtain ⟨_, _, _, _, _, _, _, _, _⟩ := BG.four
    obtain ⟨z, d0, d1, d2, d3, f0, f1, f2, f3⟩ := BR.four
    go_wp2
    exact bodyPost_ret (v := .tuple #[(.agg #[.int .i64 r.a, .int .i64 r.b, .int .i64 r.c, .int .i64 r.d]), (.int .i64 k)]) (by simp [results, Tryd.results19, go_sem, d0, d1, d2, d3]) rfl ⟨rfl, by repeat (first | with_reducible exact own_refl _ | with_reducible assumption | with_reducible apply own_alloc | with_reducible apply own_drewN | with_reducible apply own_drew | ((with_reducible refine own_setCell ?_ ?_ _); rotate_left; focus (first | (simp; done) | (simp; omega))) | (with_reducible (refine own_trans ?_ (by assumption))))⟩

set_option maxHeartbeats 1000000 in
theorem specConjugateBy_no1 (m n : Mat) (h : m.is = false) (w : World) :
    Calls Tryd.prog 19 #[(.agg #[.int .i64 m.a, .int .i64 m.b, .int .i64 m.c, .int .i64 m.d]), (.agg #[.int .i64 n.a, .int .i64 n.b, .int .i64 n.c, .int .i64 n.d])] w fun e w' => e = .returned (.tuple #[(.agg #[.int .i64 0, .int .i64 0, .int .i64 0, .int .i64 0]), (.int .i64 1)]) ∧ Below w.heap.size w w' := by
  have H := Lib.hid h
  clear h
  go_enter Tryd.func19, Tryd.ntmps19
  go_wp2_with fail
  refine (l01Is_m false m H.out _).mono ?_
  rintro e w1 ⟨rfl, hb1⟩
  have R1 : Box w1 (w.heap.size + 1 + 1) [.int .i64 0, .int .i64 0, .int .i64 0, .int .i64 0] := Box.below (Box.newAt (by simp) _ _) hb1
  obtain ⟨_, d0, d1, d2, d3, _, _, _, _⟩ := R1.four
  go_wp2
  exact bodyPost_ret (v := .tuple #[(.agg #[.int .i64 0, .int .i64 0, .int .i64 0, .int .i64 0]), (.int .i64 1)]) (by simp [results, Tryd.results19, go_sem, d0, d1, d2, d3]) rfl ⟨rfl, by repeat (first | with_reducible exact own_refl _ | with_reducible assumption | with_reducible apply own_alloc | with_reducible apply own_drewN | with_reducible apply own_drew | ((with_reducible refine own_setCell ?_ ?_ _); rotate_left; focus (first | (simp; done) | (simp; omega))) | (with_reducible (refine own_trans ?_ (by assumption))))⟩
set_option maxHeartbeats 1000000 in
theorem specConjugateBy_no2 (m n : Mat) (hm : m.is = true) (h : n.is = false) (w : World) :
    Calls Tryd.prog 19 #[(.agg #[.int .i64 m.a, .int .i64 m.b, .int .i64 m.c, .int .i64 m.d]), (.agg #[.int .i64 n.a, .int .i64 n.b, .int .i64 n.c, .int .i64 n.d])] w fun e w' => e = .returned (.tuple #[(.agg #[.int .i64 0, .int .i64 0, .int .i64 0, .int .i64 0]), (.int .i64 1)]) ∧ Below w.heap.size w w' := by
  have H := Lib.hid h
  have HM := Lib.hid hm
  clear h hm
  go_enter Tryd.func19, Tryd.ntmps19
  go_wp2_with fail
  refine (l01Is_m true m HM.out _).mono ?_
  rintro e w1 ⟨rfl, hb1⟩
  have R1 : Box w1 (w.heap.size + 1 + 1) [.int .i64 0, .int .i64 0, .int .i64 0, .int .i64 0] := Box.below (Box.newAt (by simp) _ _) hb1
  have N1 : Box w1 (w.heap.size + 1) [.int .i64 n.a, .int .i64 n.b, .int .i64 n.c, .int .i64 n.d] := Box.below (Box.alloc (Box.newAt (by simp) _ _) _) hb1
  obtain ⟨_, _, _, _, _, _, _, _, _⟩ := N1.four
  go_wp2_with fail
  refine (l01Is_m false n H.out _).mono ?_
  rintro e w2 ⟨rfl, hb2⟩
  obtain ⟨_, d0, d1, d2, d3, _, _, _, _⟩ := (R1.below hb2).four
  go_wp2
  exact bodyPost_ret (v := .tuple #[(.agg #[.int .i64 0, .int .i64 0, .int .i64 0, .int .i64 0]), (.int .i64 1)]) (by simp [results, Tryd.results19, go_sem, d0, d1, d2, d3]) rfl ⟨rfl, by repeat (first | with_reducible exact own_refl _ | with_reducible assumption | with_reducible apply own_alloc | with_reducible apply own_drewN | with_reducible apply own_drew | ((with_reducible refine own_setCell ?_ ?_ _); rotate_left; focus (first | (simp; done) | (simp; omega))) | (with_reducible (refine own_trans ?_ (by assumption))))⟩

theorem specConj_all (m n r : Mat) (k : Int) (h : PA [n, m, n.inv] r k) (w : World) :
    Calls Tryd.prog 19 #[(.agg #[.int .i64 m.a, .int .i64 m.b, .int .i64 m.c, .int .i64 m.d]), (.agg #[.int .i64 n.a, .int .i64 n.b, .int .i64 n.c, .int .i64 n.d])] w fun e w' => e = .returned (.tuple #[(.agg #[.int .i64 r.a, .int .i64 r.b, .int .i64 r.c, .int .i64 r.d]), (.int .i64 k)]) ∧ Below w.heap.size w w' := by
  rcases hm : m.is with _ | _
  · obtain ⟨rfl, rfl⟩ := PA_not h (by simp [hm])
    exact specConjugateBy_no1 m n hm w
  · rcases hn : n.is with _ | _
    · obtain ⟨rfl, rfl⟩ := PA_not h (by simp [hm, hn])
      exact specConjugateBy_no2 m n hm hn w
    · exact specConj_yes m n r k hm hn (SP_of_PA (by simp) (by simp [hm, hn, Mat.inv_is]) h) w

set_option maxHeartbeats 4000000 in
theorem implComm_any (m n r : Mat) (k : Int) (h : PA [m, n, m.inv, n.inv] r k) (w : World) (hid : Idn w) :
    Calls Tryd.prog 22 #[(.agg #[.int .i64 m.a, .int .i64 m.b, .int .i64 m.c, .int .i64 m.d]), (.agg #[.int .i64 n.a, .int .i64 n.b, .int .i64 n.c, .int .i64 n.d])] w fun e w' => e = .returned (.tuple #[(.agg #[.int .i64 r.a, .int .i64 r.b, .int .i64 r.c, .int .i64 r.d]), (.int .i64 k)]) ∧ Below w.heap.size w w' := by
  have H := Lib.hid h
  clear h
  go_enter Tryd.func22, Tryd.ntmps22
  go_upto_region 1 with fail
  have T : Below w.heap.size w (((w.alloc (.cells #[.int .i64 m.a, .int .i64 m.b, .int .i64 m.c, .int .i64 m.d] 23)).alloc (.cells #[.int .i64 n.a, .int .i64 n.b, .int .i64 n.c, .int .i64 n.d] 23)).alloc (.cells #[.int .i64 0, .int .i64 0, .int .i64 0, .int .i64 0] 23)) := own_alloc (own_alloc (own_alloc (own_refl _) _) _) _
  have IX : Idn (((w.alloc (.cells #[.int .i64 m.a, .int .i64 m.b, .int .i64 m.c, .int .i64 m.d] 23)).alloc (.cells #[.int .i64 n.a, .int .i64 n.b, .int .i64 n.c, .int .i64 n.d] 23)).alloc (.cells #[.int .i64 0, .int .i64 0, .int .i64 0, .int .i64 0] 23)) := (((Rd.alloc hid _).alloc _).alloc _)
  have BA : Box (((w.alloc (.cells #[.int .i64 m.a, .int .i64 m.b, .int .i64 m.c, .int .i64 m.d] 23)).alloc (.cells #[.int .i64 n.a, .int .i64 n.b, .int .i64 n.c, .int .i64 n.d] 23)).alloc (.cells #[.int .i64 0, .int .i64 0, .int .i64 0, .int .i64 0] 23)) w.heap.size [.int .i64 m.a, .int .i64 m.b, .int .i64 m.c, .int .i64 m.d] := Box.alloc (Box.alloc (Box.new _ _ _) _) _
  have BB : Box (((w.alloc (.cells #[.int .i64 m.a, .int .i64 m.b, .int .i64 m.c, .int .i64 m.d] 23)).alloc (.cells #[.int .i64 n.a, .int .i64 n.b, .int .i64 n.c, .int .i64 n.d] 23)).alloc (.cells #[.int .i64 0, .int .i64 0, .int .i64 0, .int .i64 0] 23)) (w.heap.size + 1) [.int .i64 n.a, .int .i64 n.b, .int .i64 n.c, .int .i64 n.d] := Box.alloc (Box.newAt (by simp) _ _) _
  have BR : Box (((w.alloc (.cells #[.int .i64 m.a, .int .i64 m.b, .int .i64 m.c, .int .i64 m.d] 23)).alloc (.cells #[.int .i64 n.a, .int .i64 n.b, .int .i64 n.c, .int .i64 n.d] 23)).alloc (.cells #[.int .i64 0, .int .i64 0, .int .i64 0, .int .i64 0] 23)) (w.heap.size + 1 + 1) [.int .i64 0, .int .i64 0, .int .i64 0, .int .i64 0] := Box.newAt (by simp) _ _
  have m1 : ¬ (w.heap.size + 1 + 1 = w.heap.size) := by omega
  go_cut [5] (fun s5 wx => s5 = (.int .i64 k) ∧ Below w.heap.size w wx ∧ Box wx (w.heap.size + 1 + 1) [.int .i64 r.a, .int .i64 r.b, .int .i64 r.c, .int .i64 r.d])
  case first =>
    go_region_held3 (fun w' => w'.cell? ⟨w.heap.size, 0, none⟩ = some (.int .i64 m.a) ∧ w'.cell? ⟨w.heap.size, 1, none⟩ = some (.int .i64 m.b) ∧ w'.cell? ⟨w.heap.size, 2, none⟩ = some (.int .i64 m.c) ∧ w'.cell? ⟨w.heap.size, 3, none⟩ = some (.int .i64 m.d) ∧ w'.cell? ⟨w.heap.size + 1, 0, none⟩ = some (.int .i64 n.a) ∧ w'.cell? ⟨w.heap.size + 1, 1, none⟩ = some (.int .i64 n.b) ∧ w'.cell? ⟨w.heap.size + 1, 2, none⟩ = some (.int .i64 n.c) ∧ w'.cell? ⟨w.heap.size + 1, 3, none⟩ = some (.int .i64 n.d)) (go_keep)
      (first
      | (go_at_call 31; refine (implInverse_gen _ _).mono ?_; rintro e w1 ⟨rfl, hb1⟩; have T := (by first | exact own_trans T hb1 | exact own_trans (own_drew T) hb1 | exact own_trans (own_drew (own_alloc T _)) hb1 | exact own_trans (own_alloc T _) hb1 | exact own_trans (own_drew (own_alloc (own_alloc T _) _)) hb1 | exact own_trans (own_alloc (own_alloc T _) _) hb1 : Below w.heap.size w w1); have BA := Box.below (by first | exact BA | exact Box.drew BA | exact Box.drew (Box.alloc BA _) | exact Box.alloc BA _ | exact Box.drew (Box.alloc (Box.alloc BA _) _) | exact Box.alloc (Box.alloc BA _) _) hb1; obtain ⟨_, _, _, _, _, _, _, _, _⟩ := BA.four; have BB := Box.below (by first | exact BB | exact Box.drew BB | exact Box.drew (Box.alloc BB _) | exact Box.alloc BB _ | exact Box.drew (Box.alloc (Box.alloc BB _) _) | exact Box.alloc (Box.alloc BB _) _) hb1; obtain ⟨_, _, _, _, _, _, _, _, _⟩ := BB.four; have BR := Box.below (by first | exact BR | exact Box.drew BR | exact Box.drew (Box.alloc BR _) | exact Box.alloc BR _ | exact Box.drew (Box.alloc (Box.alloc BR _) _) | exact Box.alloc (Box.alloc BR _) _) hb1; obtain ⟨z, d0, d1, d2, d3, f0, f1, f2, f3⟩ := BR.four; have n1 : ¬ (w1.heap.size = w.heap.size) := Nat.ne_of_gt BA.1; have n2 : ¬ (w1.heap.size = w.heap.size + 1) := Nat.ne_of_gt BB.1; have n3 : ¬ (w1.heap.size = w.heap.size + 1 + 1) := Nat.ne_of_gt BR.1; have n4 : ¬ (w1.heap.size + 1 = w.heap.size) := (by have := BA.1; omega); have IX : Idn w1 := Rd.below (by first | exact IX | exact Rd.drew IX | exact Rd.drew (Rd.alloc IX _) | exact Rd.alloc IX _ | exact Rd.drew (Rd.alloc (Rd.alloc IX _) _) | exact Rd.alloc (Rd.alloc IX _) _) hb1)
      | (go_at_call 25; refine (prodAll_any [m, n, m.inv, n.inv] _ 4 (by simp) r k H.out _ (by first | exact IX | exact Rd.drew IX | exact Rd.drew (Rd.alloc IX _) | exact Rd.alloc IX _ | exact Rd.drew (Rd.alloc (Rd.alloc IX _) _) | exact Rd.alloc (Rd.alloc IX _) _) (by first | exact Box.new _ _ _ | exact Box.drew (Box.new _ _ _) | exact Box.newAt (by simp) _ _)).mono ?_; rintro e w1 ⟨rfl, hb1⟩; have T := (by first | exact own_trans T hb1 | exact own_trans (own_drew T) hb1 | exact own_trans (own_drew (own_alloc T _)) hb1 | exact own_trans (own_alloc T _) hb1 | exact own_trans (own_drew (own_alloc (own_alloc T _) _)) hb1 | exact own_trans (own_alloc (own_alloc T _) _) hb1 : Below w.heap.size w w1); have BA := Box.below (by first | exact BA | exact Box.drew BA | exact Box.drew (Box.alloc BA _) | exact Box.alloc BA _ | exact Box.drew (Box.alloc (Box.alloc BA _) _) | exact Box.alloc (Box.alloc BA _) _) hb1; obtain ⟨_, _, _, _, _, _, _, _, _⟩ := BA.four; have BB := Box.below (by first | exact BB | exact Box.drew BB | exact Box.drew (Box.alloc BB _) | exact Box.alloc BB _ | exact Box.drew (Box.alloc (Box.alloc BB _) _) | exact Box.alloc (Box.alloc BB _) _) hb1; obtain ⟨_, _, _, _, _, _, _, _, _⟩ := BB.four; have BR := Box.below (by first | exact BR | exact Box.drew BR | exact Box.drew (Box.alloc BR _) | exact Box.alloc BR _ | exact Box.drew (Box.alloc (Box.alloc BR _) _) | exact Box.alloc (Box.alloc BR _) _) hb1; obtain ⟨z, d0, d1, d2, d3, f0, f1, f2, f3⟩ := BR.four; have n1 : ¬ (w1.heap.size = w.heap.size) := Nat.ne_of_gt BA.1; have n2 : ¬ (w1.heap.size = w.heap.size + 1) := Nat.ne_of_gt BB.1; have n3 : ¬ (w1.heap.size = w.heap.size + 1 + 1) := Nat.ne_of_gt BR.1; have n4 : ¬ (w1.heap.size + 1 = w.heap.size) := (by have := BA.1; omega)))
    all_goals
      go_wp2_with fail
      go_meet
      exact ⟨rfl, by repeat (first | with_reducible exact own_refl _ | with_reducible assumption | with_reducible apply own_alloc | with_reducible apply own_drewN | with_reducible apply own_drew | ((with_reducible refine own_setCell ?_ ?_ _); rotate_left; focus (first | (simp; done) | (simp; omega))) | (with_reducible (refine own_trans ?_ (by assumption)))), BR.put4 _ _ _ _⟩
  case rest =>
    obtain ⟨rfl, T, BR⟩ := hcut
    obtain ⟨z, d0, d1, d2, d3, f0, f1, f2, f3⟩ := BR.four
    go_wp2
    exact bodyPost_ret (v := .tuple #[(.agg #[.int .i64 r.a, .int .i64 r.b, .int .i64 r.c, .int .i64 r.d]), (.int .i64 k)]) (by simp [results, Tryd.results22, go_sem, d0, d1, d2, d3]) rfl ⟨rfl, T⟩

set_option maxHeartbeats 4000000 in
theorem specComm_yes (m n r : Mat) (k : Int) (hm : m.is = true) (hn : n.is = true) (h : SP [m, n, m.inv, n.inv] r k) (w : World) :
    Calls Tryd.prog 21 #[(.agg #[.int .i64 m.a, .int .i64 m.b, .int .i64 m.c, .int .i64 m.d]), (.agg #[.int .i64 n.a, .int .i64 n.b, .int .i64 n.c, .int .i64 n.d])] w fun e w' => e = .returned (.tuple #[(.agg #[.int .i64 r.a, .int .i64 r.b, .int .i64 r.c, .int .i64 r.d]), (.int .i64 k)]) ∧ Below w.heap.size w w' := by
  have H := Lib.hid h
  have HA := Lib.hid (show [m, n, m.inv, n.inv].all Mat.is = true by simp [hm, hn, Mat.inv_is])
  have Hm := Lib.hid hm
  have Hn := Lib.hid hn
  clear h hm hn
  go_enter Tryd.func21, Tryd.ntmps21
  go_wp2_with fail
  refine (l01Is_m true m Hm.out _).mono ?_
  rintro e w1 ⟨rfl, hb1⟩
  have R1 : Box w1 (w.heap.size + 1 + 1) [.int .i64 0, .int .i64 0, .int .i64 0, .int .i64 0] := Box.below (Box.newAt (by simp) _ _) hb1
  have N1 : Box w1 (w.heap.size + 1) [.int .i64 n.a, .int .i64 n.b, .int .i64 n.c, .int .i64 n.d] := Box.below (Box.alloc (Box.newAt (by simp) _ _) _) hb1
  have M1 : Box w1 w.heap.size [.int .i64 m.a, .int .i64 m.b, .int .i64 m.c, .int .i64 m.d] := Box.below (Box.alloc (Box.alloc (Box.newAt (by simp) _ _) _) _) hb1
  obtain ⟨_, _, _, _, _, _, _, _, _⟩ := N1.four
  go_wp2_with fail
  refine (l01Is_m true n Hn.out _).mono ?_
  rintro e w2 ⟨rfl, hb2⟩
  have BB := N1.below hb2
  have BA := M1.below hb2
  have BR := R1.below hb2
  have T : Below w.heap.size w w2 := own_trans (own_trans (own_alloc (own_alloc (own_alloc (own_refl _) _) _) _) hb1) hb2
  obtain ⟨_, _, _, _, _, _, _, _, _⟩ := BB.four
  obtain ⟨_, _, _, _, _, _, _, _, _⟩ := BA.four
  obtain ⟨_, _, _, _, _, _, _, _, _⟩ := BR.four
  have n1 : ¬ (w2.heap.size = w.heap.size) := Nat.ne_of_gt BA.1
  have n2 : ¬ (w2.heap.size = w.heap.size + 1) := Nat.ne_of_gt BB.1
  have n3 : ¬ (w2.heap.size = w.heap.size + 1 + 1) := Nat.ne_of_gt BR.1
  have n4 : ¬ (w2.heap.size + 1 = w.heap.size) := by have := BA.1; omega
  clear hb1 hb2 M1 N1 R1
  go_upto_region 3 with fail
  go_cut [6, 7] (fun s6 s7 wx => ∃ g : Nat, s6 = .pointer (some ⟨g, 0, none⟩) ∧ s7 = (.int .i64 k) ∧ Below w.heap.size w wx ∧ Box wx (w.heap.size + 1 + 1) [.int .i64 0, .int .i64 0, .int .i64 0, .int .i64 0] ∧ Box wx g [.int .i64 r.a, .int .i64 r.b, .int .i64 r.c, .int .i64 r.d])
  case first =>
    go_region_held3 (fun w' => w'.cell? ⟨w.heap.size, 0, none⟩ = some (.int .i64 m.a) ∧ w'.cell? ⟨w.heap.size, 1, none⟩ = some (.int .i64 m.b) ∧ w'.cell? ⟨w.heap.size, 2, none⟩ = some (.int .i64 m.c) ∧ w'.cell? ⟨w.heap.size, 3, none⟩ = some (.int .i64 m.d) ∧ w'.cell? ⟨w.heap.size + 1, 0, none⟩ = some (.int .i64 n.a) ∧ w'.cell? ⟨w.heap.size + 1, 1, none⟩ = some (.int .i64 n.b) ∧ w'.cell? ⟨w.heap.size + 1, 2, none⟩ = some (.int .i64 n.c) ∧ w'.cell? ⟨w.heap.size + 1, 3, none⟩ = some (.int .i64 n.d)) (go_keep)
      (first
      | (go_at_call 27; refine (specInverse_m _ (by first | exact Hm.out | exact Hn.out) _).mono ?_; rintro e w1 ⟨rfl, hb1⟩; have T := (by first | exact own_trans T hb1 | exact own_trans (own_drew T) hb1 | exact own_trans (own_drew (own_alloc T _)) hb1 | exact own_trans (own_alloc T _) hb1 | exact own_trans (own_drew (own_alloc (own_alloc T _) _)) hb1 | exact own_trans (own_alloc (own_alloc T _) _) hb1 : Below w.heap.size w w1); have BA := Box.below (by first | exact BA | exact Box.drew BA | exact Box.drew (Box.alloc BA _) | exact Box.alloc BA _ | exact Box.drew (Box.alloc (Box.alloc BA _) _) | exact Box.alloc (Box.alloc BA _) _) hb1; obtain ⟨_, _, _, _, _, _, _, _, _⟩ := BA.four; have BB := Box.below (by first | exact BB | exact Box.drew BB | exact Box.drew (Box.alloc BB _) | exact Box.alloc BB _ | exact Box.drew (Box.alloc (Box.alloc BB _) _) | exact Box.alloc (Box.alloc BB _) _) hb1; obtain ⟨_, _, _, _, _, _, _, _, _⟩ := BB.four; have BR := Box.below (by first | exact BR | exact Box.drew BR | exact Box.drew (Box.alloc BR _) | exact Box.alloc BR _ | exact Box.drew (Box.alloc (Box.alloc BR _) _) | exact Box.alloc (Box.alloc BR _) _) hb1; obtain ⟨z, d0, d1, d2, d3, f0, f1, f2, f3⟩ := BR.four; have n1 : ¬ (w1.heap.size = w.heap.size) := Nat.ne_of_gt BA.1; have n2 : ¬ (w1.heap.size = w.heap.size + 1) := Nat.ne_of_gt BB.1; have n3 : ¬ (w1.heap.size = w.heap.size + 1 + 1) := Nat.ne_of_gt BR.1; have n4 : ¬ (w1.heap.size + 1 = w.heap.size) := (by have := BA.1; omega); first | (have Z := Box.below (by first | exact Z | exact Box.drew Z | exact Box.drew (Box.alloc Z _) | exact Box.alloc Z _ | exact Box.drew (Box.alloc (Box.alloc Z _) _) | exact Box.alloc (Box.alloc Z _) _) hb1; obtain ⟨_, _, _, _, _, _, _, _, _⟩ := Z.four) | (have Z : Box w1 _ [.int .i64 0, .int .i64 0, .int .i64 0, .int .i64 0] := Box.below (by first | exact Box.new _ _ _ | exact Box.drew (Box.new _ _ _) | exact Box.alloc (Box.new _ _ _) _ | exact Box.drew (Box.alloc (Box.new _ _ _) _)) hb1; (try simp only [World.size_alloc] at Z); obtain ⟨_, _, _, _, _, _, _, _, _⟩ := Z.four) | skip)
      | (go_at_call 24; refine (specProd_any [m, n, m.inv, n.inv] _ 4 (by simp) r k HA.out H.out _ (by first | exact Box.new _ _ _ | exact Box.drew (Box.new _ _ _) | exact Box.newAt (by simp) _ _ | exact Box.alloc (Box.new _ _ _) _ | exact Box.drew (Box.alloc (Box.new _ _ _) _))).mono ?_; rintro e w1 ⟨rfl, hb1⟩; have T := (by first | exact own_trans T hb1 | exact own_trans (own_drew T) hb1 | exact own_trans (own_drew (own_alloc T _)) hb1 | exact own_trans (own_alloc T _) hb1 | exact own_trans (own_drew (own_alloc (own_alloc T _) _)) hb1 | exact own_trans (own_alloc (own_alloc T _) _) hb1 : Below w.heap.size w w1); have BA := Box.below (by first | exact BA | exact Box.drew BA | exact Box.drew (Box.alloc BA _) | exact Box.alloc BA _ | exact Box.drew (Box.alloc (Box.alloc BA _) _) | exact Box.alloc (Box.alloc BA _) _) hb1; obtain ⟨_, _, _, _, _, _, _, _, _⟩ := BA.four; have BB := Box.below (by first | exact BB | exact Box.drew BB | exact Box.drew (Box.alloc BB _) | exact Box.alloc BB _ | exact Box.drew (Box.alloc (Box.alloc BB _) _) | exact Box.alloc (Box.alloc BB _) _) hb1; obtain ⟨_, _, _, _, _, _, _, _, _⟩ := BB.four; have BR := Box.below (by first | exact BR | exact Box.drew BR | exact Box.drew (Box.alloc BR _) | exact Box.alloc BR _ | exact Box.drew (Box.alloc (Box.alloc BR _) _) | exact Box.alloc (Box.alloc BR _) _) hb1; obtain ⟨z, d0, d1, d2, d3, f0, f1, f2, f3⟩ := BR.four; have n1 : ¬ (w1.heap.size = w.heap.size) := Nat.ne_of_gt BA.1; have n2 : ¬ (w1.heap.size = w.heap.size + 1) := Nat.ne_of_gt BB.1; have n3 : ¬ (w1.heap.size = w.heap.size + 1 + 1) := Nat.ne_of_gt BR.1; have n4 : ¬ (w1.heap.size + 1 = w.heap.size) := (by have := BA.1; omega); first | (have Z := Box.below (by first | exact Z | exact Box.drew Z | exact Box.drew (Box.alloc Z _) | exact Box.alloc Z _ | exact Box.drew (Box.alloc (Box.alloc Z _) _) | exact Box.alloc (Box.alloc Z _) _) hb1; obtain ⟨_, _, _, _, _, _, _, _, _⟩ := Z.four) | (have Z : Box w1 _ [.int .i64 0, .int .i64 0, .int .i64 0, .int .i64 0] := Box.below (by first | exact Box.new _ _ _ | exact Box.drew (Box.new _ _ _) | exact Box.alloc (Box.new _ _ _) _ | exact Box.drew (Box.alloc (Box.new _ _ _) _)) hb1; (try simp only [World.size_alloc] at Z); obtain ⟨_, _, _, _, _, _, _, _, _⟩ := Z.four) | skip))
    all_goals
      go_wp2_with fail
      go_meet
      first
        | exact ⟨_, rfl, rfl, own_alloc T _, BR.alloc _, Box.new _ _ _⟩
        | exact ⟨_, rfl, rfl, by repeat (first | with_reducible exact own_refl _ | with_reducible assumption | with_reducible apply own_alloc | with_reducible apply own_drewN | with_reducible apply own_drew | ((with_reducible refine own_setCell ?_ ?_ _); rotate_left; focus (first | (simp; done) | (simp; omega))) | (with_reducible (refine own_trans ?_ (by assumption)))), (((BR.far (by dsimp only; omega) _).far (by dsimp only; omega) _).far (by dsimp only; omega) _).far (by dsimp only; omega) _, Z.put4 _ _ _ _⟩
  case rest =>
    obtain ⟨g, rfl, rfl, T, BR, BG⟩ := hcut
    obtain ⟨_, _, _, _, _, _, _, _, _⟩ := BG.four
    obtain ⟨z, d0, d1, d2, d3, f0, f1, f2, f3⟩ := BR.four
    go_wp2
    exact bodyPost_ret (v := .tuple #[(.agg #[.int .i64 r.a, .int .i64 r.b, .int .i64 r.c, .int .i64 r.d]), (.int .i64 k)]) (by simp [results, Tryd.results21, go_sem, d0, d1, d2, d3]) rfl ⟨rfl, by repeat (first | with_reducible exact own_refl _ | with_reducible assumption | with_reducible apply own_alloc | with_reducible apply own_drewN | with_reducible apply own_drew | ((with_reducible refine own_setCell ?_ ?_ _); rotate_left; focus (first | (simp; done) | (simp; omega))) | (with_reducible (refine own_trans ?_ (by assumption))))⟩

set_option maxHeartbeats 1000000 in
theorem specCommutatorOf_no1 (m n : Mat) (h : m.is = false) (w : World) :
    Calls Tryd.prog 21 #[(.agg #[.int .i64 m.a, .int .i64 m.b, .int .i64 m.c, .int .i64 m.d]), (.agg #[.int .i64 n.a, .int .i64 n.b, .int .i64 n.c, .int .i64 n.d])] w fun e w' => e = .returned (.tuple #[(.agg #[.int .i64 0, .int .i64 0, .int .i64 0, .int .i64 0]), (.int .i64 1)]) ∧ Below w.heap.size w w' := by
  have H := Lib.hid h
  clear h
  go_enter Tryd.func21, Tryd.ntmps21
  go_wp2_with fail
  refine (l01Is_m false m H.out _).mono ?_
  rintro e w1 ⟨rfl, hb1⟩
  have R1 : Box w1 (w.heap.size + 1 + 1) [.int .i64 0, .int .i64 0, .int .i64 0, .int .i64 0] := Box.below (Box.newAt (by simp) _ _) hb1
  obtain ⟨_, d0, d1, d2, d3, _, _, _, _⟩ := R1.four
  go_wp2
  exact bodyPost_ret (v := .tuple #[(.agg #[.int .i64 0, .int .i64 0, .int .i64 0, .int .i64 0]), (.int .i64 1)]) (by simp [results, Tryd.results21, go_sem, d0, d1, d2, d3]) rfl ⟨rfl, by repeat (first | with_reducible exact own_refl _ | with_reducible assumption | with_reducible apply own_alloc | with_reducible apply own_drewN | with_reducible apply own_drew | ((with_reducible refine own_setCell ?_ ?_ _); rotate_left; focus (first | (simp; done) | (simp; omega))) | (with_reducible (refine own_trans ?_ (by assumption))))⟩
set_option maxHeartbeats 1000000 in
theorem specCommutatorOf_no2 (m n : Mat) (hm : m.is = true) (h : n.is = false) (w : World) :
    Calls Tryd.prog 21 #[(.agg #[.int .i64 m.a, .int .i64 m.b, .int .i64 m.c, .int .i64 m.d]), (.agg #[.int .i64 n.a, .int .i64 n.b, .int .i64 n.c, .int .i64 n.d])] w fun e w' => e = .returned (.tuple #[(.agg #[.int .i64 0, .int .i64 0, .int .i64 0, .int .i64 0]), (.int .i64 1)]) ∧ Below w.heap.size w w' := by
  have H := Lib.hid h
  have HM := Lib.hid hm
  clear h hm
  go_enter Tryd.func21, Tryd.ntmps21
  go_wp2_with fail
  refine (l01Is_m true m HM.out _).mono ?_
  rintro e w1 ⟨rfl, hb1⟩
  have R1 : Box w1 (w.heap.size + 1 + 1) [.int .i64 0, .int .i64 0, .int .i64 0, .int .i64 0] := Box.below (Box.newAt (by simp) _ _) hb1
  have N1 : Box w1 (w.heap.size + 1) [.int .i64 n.a, .int .i64 n.b, .int .i64 n.c, .int .i64 n.d] := Box.below (Box.alloc (Box.newAt (by simp) _ _) _) hb1
  obtain ⟨_, _, _, _, _, _, _, _, _⟩ := N1.four
  go_wp2_with fail
  refine (l01Is_m false n H.out _).mono ?_
  rintro e w2 ⟨rfl, hb2⟩
  obtain ⟨_, d0, d1, d2, d3, _, _, _, _⟩ := (R1.below hb2).four
  go_wp2
  exact bodyPost_ret (v := .tuple #[(.agg #[.int .i64 0, .int .i64 0, .int .i64 0, .int .i64 0]), (.int .i64 1)]) (by simp [results, Tryd.results21, go_sem, d0, d1, d2, d3]) rfl ⟨rfl, by repeat (first | with_reducible exact own_refl _ | with_reducible assumption | with_reducible apply own_alloc | with_reducible apply own_drewN | with_reducible apply own_drew | ((with_reducible refine own_setCell ?_ ?_ _); rotate_left; focus (first | (simp; done) | (simp; omega))) | (with_reducible (refine own_trans ?_ (by assumption))))⟩

theorem specComm_all (m n r : Mat) (k : Int) (h : PA [m, n, m.inv, n.inv] r k) (w : World) :
    Calls Tryd.prog 21 #[(.agg #[.int .i64 m.a, .int .i64 m.b, .int .i64 m.c, .int .i64 m.d]), (.agg #[.int .i64 n.a, .int .i64 n.b, .int .i64 n.c, .int .i64 n.d])] w fun e w' => e = .returned (.tuple #[(.agg #[.int .i64 r.a, .int .i64 r.b, .int .i64 r.c, .int .i64 r.d]), (.int .i64 k)]) ∧ Below w.heap.size w w' := by
  rcases hm : m.is with _ | _
  · obtain ⟨rfl, rfl⟩ := PA_not h (by simp [hm])
    exact specCommutatorOf_no1 m n hm w
  · rcases hn : n.is with _ | _
    · obtain ⟨rfl, rfl⟩ := PA_not h (by simp [hm, hn])
      exact specCommutatorOf_no2 m n hm hn w
    · exact specComm_yes m n r k hm hn (SP_of_PA (by simp) (by simp [hm, hn, Mat.inv_is]) h) w
end Go.Proofs.YtamibhpaamhjmaaDoor
