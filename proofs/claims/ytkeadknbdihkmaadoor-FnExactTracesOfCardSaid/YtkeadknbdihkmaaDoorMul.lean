/- Contracts of products of two matrices. -/
import Derived.Test.YtkeadknbdihkmaaDoorA
namespace Go.Proofs.YtkeadknbdihkmaaDoor
open Go.ChangeShapes Go.WideShapes Go.ChangeAt Go.RowKit

set_option maxHeartbeats 1000000 in
theorem multiply_ent (a b c d e f g h : Int) (ha : Ent a) (hb : Ent b) (hc : Ent c) (hd : Ent d) (he : Ent e) (hf : Ent f) (hg : Ent g) (hh : Ent h) (w : World) :
    Calls Tryd.prog 74 #[(.agg #[.int .i64 a, .int .i64 b, .int .i64 c, .int .i64 d]), (.agg #[.int .i64 e, .int .i64 f, .int .i64 g, .int .i64 h])] w fun r w' => r = .returned (.agg #[.int .i64 (a * e + b * g), .int .i64 (a * f + b * h), .int .i64 (c * e + d * g), .int .i64 (c * f + d * h)]) ∧ Below w.heap.size w w' := by
  obtain ⟨_, _⟩ := ent_mul ha he
  obtain ⟨_, _⟩ := ent_mul hb hg
  obtain ⟨_, _⟩ := ent_mul ha hf
  obtain ⟨_, _⟩ := ent_mul hb hh
  obtain ⟨_, _⟩ := ent_mul hc he
  obtain ⟨_, _⟩ := ent_mul hd hg
  obtain ⟨_, _⟩ := ent_mul hc hf
  obtain ⟨_, _⟩ := ent_mul hd hh
  clear ha hb hc hd he hf hg hh
  go_enter Tryd.func74, Tryd.ntmps74
  go_wp2
  exact bodyPost_ret (v := (.agg #[.int .i64 (a * e + b * g), .int .i64 (a * f + b * h), .int .i64 (c * e + d * g), .int .i64 (c * f + d * h)])) (by simp [results, Tryd.results74, go_sem]) rfl ⟨rfl, by repeat (first | with_reducible exact own_refl _ | with_reducible assumption | with_reducible apply own_alloc | with_reducible apply own_drewN | with_reducible apply own_drew | ((with_reducible refine own_setCell ?_ ?_ _); rotate_left; focus (first | (simp; done) | (simp; omega))) | (with_reducible (refine own_trans ?_ (by assumption))))⟩

/-- Four numbers are entries. -/
def okE (p q r s : Int) : Bool := allW [p, q, r, s] 1000000000
theorem okE_true {p q r s : Int} : okE p q r s = true ↔ inW p 1000000000 = true ∧ inW q 1000000000 = true ∧ inW r 1000000000 = true ∧ inW s 1000000000 = true := by
  simp [okE, allW]

theorem entry_is (r : Bool) (x : Int) (h : inW x 1000000000 = r) (w : World) :
    Calls Tryd.prog 72 #[(.int .i64 x)] w fun e w' => e = .returned (.bool r) ∧ w = w' := h ▸ l01Entry_any x w

set_option maxHeartbeats 1000000 in
theorem times_yes (a b c d e f g h : Int) (ha : Ent a) (hb : Ent b) (hc : Ent c) (hd : Ent d) (he : Ent e) (hf : Ent f) (hg : Ent g) (hh : Ent h)
    (hok : okE (a * e + b * g) (a * f + b * h) (c * e + d * g) (c * f + d * h) = true) (w : World) :
    Calls Tryd.prog 43 #[(.agg #[.int .i64 a, .int .i64 b, .int .i64 c, .int .i64 d]), (.agg #[.int .i64 e, .int .i64 f, .int .i64 g, .int .i64 h])] w fun r w' => r = .returned (.tuple #[(.agg #[.int .i64 (a * e + b * g), .int .i64 (a * f + b * h), .int .i64 (c * e + d * g), .int .i64 (c * f + d * h)]), .bool true]) ∧ Below w.heap.size w w' := by
  obtain ⟨_, _⟩ := ent_mul ha he
  obtain ⟨_, _⟩ := ent_mul hb hg
  obtain ⟨_, _⟩ := ent_mul ha hf
  obtain ⟨_, _⟩ := ent_mul hb hh
  obtain ⟨_, _⟩ := ent_mul hc he
  obtain ⟨_, _⟩ := ent_mul hd hg
  obtain ⟨_, _⟩ := ent_mul hc hf
  obtain ⟨_, _⟩ := ent_mul hd hh
  obtain ⟨k1, k2, k3, k4⟩ := okE_true.1 hok
  have K1 := Lib.hid k1
  have K2 := Lib.hid k2
  have K3 := Lib.hid k3
  have K4 := Lib.hid k4
  clear ha hb hc hd he hf hg hh hok k1 k2 k3 k4
  go_enter Tryd.func43, Tryd.ntmps43
  go_wp2_with fail
  refine (entry_is true _ K1.out _).mono ?_
  rintro e w1 ⟨rfl, rfl⟩
  go_wp2_with fail
  refine (entry_is true _ K2.out _).mono ?_
  rintro e w1 ⟨rfl, rfl⟩
  go_wp2_with fail
  refine (entry_is true _ K3.out _).mono ?_
  rintro e w1 ⟨rfl, rfl⟩
  go_wp2_with fail
  refine (entry_is true _ K4.out _).mono ?_
  rintro e w1 ⟨rfl, rfl⟩
  go_wp2
  exact bodyPost_ret (v := .tuple #[(.agg #[.int .i64 (a * e + b * g), .int .i64 (a * f + b * h), .int .i64 (c * e + d * g), .int .i64 (c * f + d * h)]), .bool true]) (by simp [results, Tryd.results43, go_sem]) rfl ⟨rfl, by repeat (first | with_reducible exact own_refl _ | with_reducible assumption | with_reducible apply own_alloc | with_reducible apply own_drewN | with_reducible apply own_drew | ((with_reducible refine own_setCell ?_ ?_ _); rotate_left; focus (first | (simp; done) | (simp; omega))) | (with_reducible (refine own_trans ?_ (by assumption))))⟩

set_option maxHeartbeats 1000000 in
theorem times_no1 (a b c d e f g h : Int) (ha : Ent a) (hb : Ent b) (hc : Ent c) (hd : Ent d) (he : Ent e) (hf : Ent f) (hg : Ent g) (hh : Ent h)
    (k1 : inW (a * e + b * g) 1000000000 = false) (w : World) :
    Calls Tryd.prog 43 #[(.agg #[.int .i64 a, .int .i64 b, .int .i64 c, .int .i64 d]), (.agg #[.int .i64 e, .int .i64 f, .int .i64 g, .int .i64 h])] w fun r w' => r = .returned (.tuple #[(.agg #[.int .i64 0, .int .i64 0, .int .i64 0, .int .i64 0]), .bool false]) ∧ Below w.heap.size w w' := by
  obtain ⟨_, _⟩ := ent_mul ha he
  obtain ⟨_, _⟩ := ent_mul hb hg
  obtain ⟨_, _⟩ := ent_mul ha hf
  obtain ⟨_, _⟩ := ent_mul hb hh
  obtain ⟨_, _⟩ := ent_mul hc he
  obtain ⟨_, _⟩ := ent_mul hd hg
  obtain ⟨_, _⟩ := ent_mul hc hf
  obtain ⟨_, _⟩ := ent_mul hd hh
  have K1 := Lib.hid k1
  clear ha hb hc hd he hf hg hh k1
  go_enter Tryd.func43, Tryd.ntmps43
  go_wp2_with fail
  refine (entry_is false _ K1.out _).mono ?_
  rintro e w1 ⟨rfl, rfl⟩
  go_wp2
  exact bodyPost_ret (v := .tuple #[(.agg #[.int .i64 0, .int .i64 0, .int .i64 0, .int .i64 0]), .bool false]) (by simp [results, Tryd.results43, go_sem]) rfl ⟨rfl, by repeat (first | with_reducible exact own_refl _ | with_reducible assumption | with_reducible apply own_alloc | with_reducible apply own_drewN | with_reducible apply own_drew | ((with_reducible refine own_setCell ?_ ?_ _); rotate_left; focus (first | (simp; done) | (simp; omega))) | (with_reducible (refine own_trans ?_ (by assumption))))⟩

set_option maxHeartbeats 1000000 in
theorem times_no2 (a b c d e f g h : Int) (ha : Ent a) (hb : Ent b) (hc : Ent c) (hd : Ent d) (he : Ent e) (hf : Ent f) (hg : Ent g) (hh : Ent h)
    (k1 : inW (a * e + b * g) 1000000000 = true) (k2 : inW (a * f + b * h) 1000000000 = false) (w : World) :
    Calls Tryd.prog 43 #[(.agg #[.int .i64 a, .int .i64 b, .int .i64 c, .int .i64 d]), (.agg #[.int .i64 e, .int .i64 f, .int .i64 g, .int .i64 h])] w fun r w' => r = .returned (.tuple #[(.agg #[.int .i64 0, .int .i64 0, .int .i64 0, .int .i64 0]), .bool false]) ∧ Below w.heap.size w w' := by
  obtain ⟨_, _⟩ := ent_mul ha he
  obtain ⟨_, _⟩ := ent_mul hb hg
  obtain ⟨_, _⟩ := ent_mul ha hf
  obtain ⟨_, _⟩ := ent_mul hb hh
  obtain ⟨_, _⟩ := ent_mul hc he
  obtain ⟨_, _⟩ := ent_mul hd hg
  obtain ⟨_, _⟩ := ent_mul hc hf
  obtain ⟨_, _⟩ := ent_mul hd hh
  have K1 := Lib.hid k1
  have K2 := Lib.hid k2
  clear ha hb hc hd he hf hg hh k1 k2
  go_enter Tryd.func43, Tryd.ntmps43
  go_wp2_with fail
  refine (entry_is true _ K1.out _).mono ?_
  rintro e w1 ⟨rfl, rfl⟩
  go_wp2_with fail
  refine (entry_is false _ K2.out _).mono ?_
  rintro e w1 ⟨rfl, rfl⟩
  go_wp2
  exact bodyPost_ret (v := .tuple #[(.agg #[.int .i64 0, .int .i64 0, .int .i64 0, .int .i64 0]), .bool false]) (by simp [results, Tryd.results43, go_sem]) rfl ⟨rfl, by repeat (first | with_reducible exact own_refl _ | with_reducible assumption | with_reducible apply own_alloc | with_reducible apply own_drewN | with_reducible apply own_drew | ((with_reducible refine own_setCell ?_ ?_ _); rotate_left; focus (first | (simp; done) | (simp; omega))) | (with_reducible (refine own_trans ?_ (by assumption))))⟩

set_option maxHeartbeats 1000000 in
theorem times_no3 (a b c d e f g h : Int) (ha : Ent a) (hb : Ent b) (hc : Ent c) (hd : Ent d) (he : Ent e) (hf : Ent f) (hg : Ent g) (hh : Ent h)
    (k1 : inW (a * e + b * g) 1000000000 = true) (k2 : inW (a * f + b * h) 1000000000 = true) (k3 : inW (c * e + d * g) 1000000000 = false) (w : World) :
    Calls Tryd.prog 43 #[(.agg #[.int .i64 a, .int .i64 b, .int .i64 c, .int .i64 d]), (.agg #[.int .i64 e, .int .i64 f, .int .i64 g, .int .i64 h])] w fun r w' => r = .returned (.tuple #[(.agg #[.int .i64 0, .int .i64 0, .int .i64 0, .int .i64 0]), .bool false]) ∧ Below w.heap.size w w' := by
  obtain ⟨_, _⟩ := ent_mul ha he
  obtain ⟨_, _⟩ := ent_mul hb hg
  obtain ⟨_, _⟩ := ent_mul ha hf
  obtain ⟨_, _⟩ := ent_mul hb hh
  obtain ⟨_, _⟩ := ent_mul hc he
  obtain ⟨_, _⟩ := ent_mul hd hg
  obtain ⟨_, _⟩ := ent_mul hc hf
  obtain ⟨_, _⟩ := ent_mul hd hh
  have K1 := Lib.hid k1
  have K2 := Lib.hid k2
  have K3 := Lib.hid k3
  clear ha hb hc hd he hf hg hh k1 k2 k3
  go_enter Tryd.func43, Tryd.ntmps43
  go_wp2_with fail
  refine (entry_is true _ K1.out _).mono ?_
  rintro e w1 ⟨rfl, rfl⟩
  go_wp2_with fail
  refine (entry_is true _ K2.out _).mono ?_
  rintro e w1 ⟨rfl, rfl⟩
  go_wp2_with fail
  refine (entry_is false _ K3.out _).mono ?_
  rintro e w1 ⟨rfl, rfl⟩
  go_wp2
  exact bodyPost_ret (v := .tuple #[(.agg #[.int .i64 0, .int .i64 0, .int .i64 0, .int .i64 0]), .bool false]) (by simp [results, Tryd.results43, go_sem]) rfl ⟨rfl, by repeat (first | with_reducible exact own_refl _ | with_reducible assumption | with_reducible apply own_alloc | with_reducible apply own_drewN | with_reducible apply own_drew | ((with_reducible refine own_setCell ?_ ?_ _); rotate_left; focus (first | (simp; done) | (simp; omega))) | (with_reducible (refine own_trans ?_ (by assumption))))⟩

set_option maxHeartbeats 1000000 in
theorem times_no4 (a b c d e f g h : Int) (ha : Ent a) (hb : Ent b) (hc : Ent c) (hd : Ent d) (he : Ent e) (hf : Ent f) (hg : Ent g) (hh : Ent h)
    (k1 : inW (a * e + b * g) 1000000000 = true) (k2 : inW (a * f + b * h) 1000000000 = true) (k3 : inW (c * e + d * g) 1000000000 = true) (k4 : inW (c * f + d * h) 1000000000 = false) (w : World) :
    Calls Tryd.prog 43 #[(.agg #[.int .i64 a, .int .i64 b, .int .i64 c, .int .i64 d]), (.agg #[.int .i64 e, .int .i64 f, .int .i64 g, .int .i64 h])] w fun r w' => r = .returned (.tuple #[(.agg #[.int .i64 0, .int .i64 0, .int .i64 0, .int .i64 0]), .bool false]) ∧ Below w.heap.size w w' := by
  obtain ⟨_, _⟩ := ent_mul ha he
  obtain ⟨_, _⟩ := ent_mul hb hg
  obtain ⟨_, _⟩ := ent_mul ha hf
  obtain ⟨_, _⟩ := ent_mul hb hh
  obtain ⟨_, _⟩ := ent_mul hc he
  obtain ⟨_, _⟩ := ent_mul hd hg
  obtain ⟨_, _⟩ := ent_mul hc hf
  obtain ⟨_, _⟩ := ent_mul hd hh
  have K1 := Lib.hid k1
  have K2 := Lib.hid k2
  have K3 := Lib.hid k3
  have K4 := Lib.hid k4
  clear ha hb hc hd he hf hg hh k1 k2 k3 k4
  go_enter Tryd.func43, Tryd.ntmps43
  go_wp2_with fail
  refine (entry_is true _ K1.out _).mono ?_
  rintro e w1 ⟨rfl, rfl⟩
  go_wp2_with fail
  refine (entry_is true _ K2.out _).mono ?_
  rintro e w1 ⟨rfl, rfl⟩
  go_wp2_with fail
  refine (entry_is true _ K3.out _).mono ?_
  rintro e w1 ⟨rfl, rfl⟩
  go_wp2_with fail
  refine (entry_is false _ K4.out _).mono ?_
  rintro e w1 ⟨rfl, rfl⟩
  go_wp2
  exact bodyPost_ret (v := .tuple #[(.agg #[.int .i64 0, .int .i64 0, .int .i64 0, .int .i64 0]), .bool false]) (by simp [results, Tryd.results43, go_sem]) rfl ⟨rfl, by repeat (first | with_reducible exact own_refl _ | with_reducible assumption | with_reducible apply own_alloc | with_reducible apply own_drewN | with_reducible apply own_drew | ((with_reducible refine own_setCell ?_ ?_ _); rotate_left; focus (first | (simp; done) | (simp; omega))) | (with_reducible (refine own_trans ?_ (by assumption))))⟩

theorem times_no (a b c d e f g h : Int) (ha : Ent a) (hb : Ent b) (hc : Ent c) (hd : Ent d) (he : Ent e) (hf : Ent f) (hg : Ent g) (hh : Ent h)
    (hok : okE (a * e + b * g) (a * f + b * h) (c * e + d * g) (c * f + d * h) = false) (w : World) :
    Calls Tryd.prog 43 #[(.agg #[.int .i64 a, .int .i64 b, .int .i64 c, .int .i64 d]), (.agg #[.int .i64 e, .int .i64 f, .int .i64 g, .int .i64 h])] w fun r w' => r = .returned (.tuple #[(.agg #[.int .i64 0, .int .i64 0, .int .i64 0, .int .i64 0]), .bool false]) ∧ Below w.heap.size w w' := by
  rcases k1 : inW (a * e + b * g) 1000000000 with _ | _
  · exact times_no1 a b c d e f g h ha hb hc hd he hf hg hh k1 w
  rcases k2 : inW (a * f + b * h) 1000000000 with _ | _
  · exact times_no2 a b c d e f g h ha hb hc hd he hf hg hh k1 k2 w
  rcases k3 : inW (c * e + d * g) 1000000000 with _ | _
  · exact times_no3 a b c d e f g h ha hb hc hd he hf hg hh k1 k2 k3 w
  rcases k4 : inW (c * f + d * h) 1000000000 with _ | _
  · exact times_no4 a b c d e f g h ha hb hc hd he hf hg hh k1 k2 k3 k4 w
  · rw [okE_true.2 ⟨k1, k2, k3, k4⟩] at hok
    cases hok
end Go.Proofs.YtkeadknbdihkmaaDoor
