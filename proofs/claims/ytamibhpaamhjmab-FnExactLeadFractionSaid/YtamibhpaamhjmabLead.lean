/- Contracts of LeadFraction, and the law. -/
import Derived.Test.YtamibhpaamhjmabTo
import Derived.Test.YtamibhpaamhjmabF
import Derived.Test.YtamibhpaamhjmabCmp
import Derived.Test.YtamibhpaamhjmabLoLeadFraction
namespace Go.Proofs.Ytamibhpaamhjmab
open Go.ChangeShapes Go.WideShapes Go.ChangeAt Go.RowKit

theorem lead_not {a b c d p q : Int} (h : a * d - b * c = 1) (hf : isF p q = true) : ¬ (a * p + b * q = 0 ∧ c * p + d * q = 0) := by
  rintro ⟨h1, h2⟩
  have e1 : p = 0 := by grind
  have e2 : q = 0 := by grind
  subst e1 e2
  revert hf
  decide
theorem sum_mid {x y : Int} (hx : -1000000000000000000 ≤ x ∧ x ≤ 1000000000000000000) (hy : -1000000000000000000 ≤ y ∧ y ≤ 1000000000000000000) : Mid (x + y) := by unfold Mid; omega

theorem specLow_is (p q P Q : Int) (hp : Mid p) (hq : Mid q) (h : ¬ (p = 0 ∧ q = 0)) (hP : lowP p q = P) (hQ : lowQ p q = Q) (w : World) :
    Calls Try.prog 22 #[(.int .i64 p), (.int .i64 q)] w fun e w' => e = .returned (.agg #[.int .i64 P, .int .i64 Q]) ∧ Below w.heap.size w w' := by
  subst hP hQ
  exact specLow_any p q hp hq h w
/-- What leading comes to: a fraction and a code. -/
def LF (a b c d p q r0 r1 k : Int) : Prop :=
  (allW [lowP (a * p + b * q) (c * p + d * q), lowQ (a * p + b * q) (c * p + d * q)] 1000000000 = false ∧ r0 = 0 ∧ r1 = 0 ∧ k = 3) ∨
    (allW [lowP (a * p + b * q) (c * p + d * q), lowQ (a * p + b * q) (c * p + d * q)] 1000000000 = true ∧ r0 = lowP (a * p + b * q) (c * p + d * q) ∧ r1 = lowQ (a * p + b * q) (c * p + d * q) ∧ k = 0)

set_option maxHeartbeats 1000000 in
theorem implLead_no1 (a b c d p q : Int) (h : isM a b c d = false) (w : World) :
    Calls Try.prog 17 #[(.agg #[.int .i64 a, .int .i64 b, .int .i64 c, .int .i64 d]), (.agg #[.int .i64 p, .int .i64 q])] w fun e w' => e = .returned (.tuple #[(.agg #[.int .i64 0, .int .i64 0]), (.int .i64 1)]) ∧ Below w.heap.size w w' := by
  have H := Lib.hid h
  clear h
  go_enter Try.func17, Try.ntmps17
  go_wp2_with fail
  refine (implIs_is false _ _ _ _ _ H.out).mono ?_
  rintro e w1 ⟨rfl, hb1⟩
  have R1 : Box w1 (w.heap.size + 1 + 1) [.int .i64 0, .int .i64 0] := Box.below (Box.newAt (by simp) _ _) hb1
  obtain ⟨_, d0, d1, _, _⟩ := R1.two
  go_wp2
  exact bodyPost_ret (v := .tuple #[(.agg #[.int .i64 0, .int .i64 0]), (.int .i64 1)]) (by simp [results, Try.results17, go_sem, d0, d1]) rfl ⟨rfl, by repeat (first | with_reducible exact own_refl _ | with_reducible assumption | with_reducible apply own_alloc | with_reducible apply own_drewN | with_reducible apply own_drew | ((with_reducible refine own_setCell ?_ ?_ _); rotate_left; focus (first | (simp; done) | (simp; omega))) | (with_reducible (refine own_trans ?_ (by assumption))))⟩
set_option maxHeartbeats 1000000 in
theorem implLead_no2 (a b c d p q : Int) (h : isM a b c d = true) (h' : isF p q = false) (w : World) :
    Calls Try.prog 17 #[(.agg #[.int .i64 a, .int .i64 b, .int .i64 c, .int .i64 d]), (.agg #[.int .i64 p, .int .i64 q])] w fun e w' => e = .returned (.tuple #[(.agg #[.int .i64 0, .int .i64 0]), (.int .i64 1)]) ∧ Below w.heap.size w w' := by
  have H := Lib.hid h
  have H' := Lib.hid h'
  clear h h'
  go_enter Try.func17, Try.ntmps17
  go_wp2_with fail
  refine (implIs_is true _ _ _ _ _ H.out).mono ?_
  rintro e w1 ⟨rfl, hb1⟩
  have Bw1_0 : Box w1 (w.heap.size + 1) [.int .i64 p, .int .i64 q] := by refine Box.below ?_ hb1; repeat (first | with_reducible assumption | with_reducible exact Box.new _ _ _ | (with_reducible refine Box.newAt ?_ _ _; (simp; done)) | with_reducible apply Box.alloc | with_reducible apply Box.drewN | with_reducible apply Box.drew)
  obtain ⟨_, _, _, _, _⟩ := Bw1_0.two
  have Bw1_1 : Box w1 (w.heap.size + 1 + 1) [.int .i64 0, .int .i64 0] := by refine Box.below ?_ hb1; repeat (first | with_reducible assumption | with_reducible exact Box.new _ _ _ | (with_reducible refine Box.newAt ?_ _ _; (simp; done)) | with_reducible apply Box.alloc | with_reducible apply Box.drewN | with_reducible apply Box.drew)
  obtain ⟨_, _, _, _, _⟩ := Bw1_1.two
  go_wp2_with fail
  refine (implIsF_is false _ _ H'.out _).mono ?_
  rintro e w2 ⟨rfl, hb2⟩
  obtain ⟨_, d0, d1, _, _⟩ := (Bw1_1.below hb2).two
  go_wp2
  exact bodyPost_ret (v := .tuple #[(.agg #[.int .i64 0, .int .i64 0]), (.int .i64 1)]) (by simp [results, Try.results17, go_sem, d0, d1]) rfl ⟨rfl, by repeat (first | with_reducible exact own_refl _ | with_reducible assumption | with_reducible apply own_alloc | with_reducible apply own_drewN | with_reducible apply own_drew | ((with_reducible refine own_setCell ?_ ?_ _); rotate_left; focus (first | (simp; done) | (simp; omega))) | (with_reducible (refine own_trans ?_ (by assumption))))⟩
set_option maxHeartbeats 2000000 in
theorem implLead_yes (a b c d p q r0 r1 k : Int) (h : isM a b c d = true) (h' : isF p q = true) (hl : LF a b c d p q r0 r1 k) (w : World) :
    Calls Try.prog 17 #[(.agg #[.int .i64 a, .int .i64 b, .int .i64 c, .int .i64 d]), (.agg #[.int .i64 p, .int .i64 q])] w fun e w' => e = .returned (.tuple #[(.agg #[.int .i64 r0, .int .i64 r1]), (.int .i64 k)]) ∧ Below w.heap.size w w' := by
  obtain ⟨ea, eb, ec, ed, hd⟩ := isM_ent h
  obtain ⟨ep, eq, _, _⟩ := isF_ent h'
  have HN := Lib.hid (lead_not hd h')
  have m1 := ent_mul ea ep
  have m2 := ent_mul eb eq
  have m3 := ent_mul ec ep
  have m4 := ent_mul ed eq
  have MP := sum_mid m1 m2
  have MQ := sum_mid m3 m4
  obtain ⟨_, _⟩ := m1
  obtain ⟨_, _⟩ := m2
  obtain ⟨_, _⟩ := m3
  obtain ⟨_, _⟩ := m4
  have H := Lib.hid h
  have H' := Lib.hid h'
  clear h h' hd ea eb ec ed ep eq
  rcases hl with ⟨hr, rfl, rfl, rfl⟩ | ⟨hr, rfl, rfl, rfl⟩
  all_goals
    have HR := Lib.hid hr
    clear hr
    go_enter Try.func17, Try.ntmps17
    go_wp2_with fail
    refine (implIs_is true _ _ _ _ _ H.out).mono ?_
    rintro e w1 ⟨rfl, hb1⟩
    have Bw1_0 : Box w1 (w.heap.size) [.int .i64 a, .int .i64 b, .int .i64 c, .int .i64 d] := by refine Box.below ?_ hb1; repeat (first | with_reducible assumption | with_reducible exact Box.new _ _ _ | (with_reducible refine Box.newAt ?_ _ _; (simp; done)) | with_reducible apply Box.alloc | with_reducible apply Box.drewN | with_reducible apply Box.drew)
    obtain ⟨_, _, _, _, _, _, _, _, _⟩ := Bw1_0.four
    have Bw1_1 : Box w1 (w.heap.size + 1) [.int .i64 p, .int .i64 q] := by refine Box.below ?_ hb1; repeat (first | with_reducible assumption | with_reducible exact Box.new _ _ _ | (with_reducible refine Box.newAt ?_ _ _; (simp; done)) | with_reducible apply Box.alloc | with_reducible apply Box.drewN | with_reducible apply Box.drew)
    obtain ⟨_, _, _, _, _⟩ := Bw1_1.two
    have Bw1_2 : Box w1 (w.heap.size + 1 + 1) [.int .i64 0, .int .i64 0] := by refine Box.below ?_ hb1; repeat (first | with_reducible assumption | with_reducible exact Box.new _ _ _ | (with_reducible refine Box.newAt ?_ _ _; (simp; done)) | with_reducible apply Box.alloc | with_reducible apply Box.drewN | with_reducible apply Box.drew)
    obtain ⟨_, _, _, _, _⟩ := Bw1_2.two
    go_wp2_with fail
    refine (implIsF_is true _ _ H'.out _).mono ?_
    rintro e w2 ⟨rfl, hb2⟩
    have Bw2_0 : Box w2 (w.heap.size) [.int .i64 a, .int .i64 b, .int .i64 c, .int .i64 d] := by refine Box.below ?_ hb2; repeat (first | with_reducible assumption | with_reducible exact Box.new _ _ _ | (with_reducible refine Box.newAt ?_ _ _; (simp; done)) | with_reducible apply Box.alloc | with_reducible apply Box.drewN | with_reducible apply Box.drew)
    obtain ⟨_, _, _, _, _, _, _, _, _⟩ := Bw2_0.four
    have Bw2_1 : Box w2 (w.heap.size + 1) [.int .i64 p, .int .i64 q] := by refine Box.below ?_ hb2; repeat (first | with_reducible assumption | with_reducible exact Box.new _ _ _ | (with_reducible refine Box.newAt ?_ _ _; (simp; done)) | with_reducible apply Box.alloc | with_reducible apply Box.drewN | with_reducible apply Box.drew)
    obtain ⟨_, _, _, _, _⟩ := Bw2_1.two
    have Bw2_2 : Box w2 (w.heap.size + 1 + 1) [.int .i64 0, .int .i64 0] := by refine Box.below ?_ hb2; repeat (first | with_reducible assumption | with_reducible exact Box.new _ _ _ | (with_reducible refine Box.newAt ?_ _ _; (simp; done)) | with_reducible apply Box.alloc | with_reducible apply Box.drewN | with_reducible apply Box.drew)
    obtain ⟨_, _, _, _, _⟩ := Bw2_2.two
    go_wp2_with fail
    refine (implLow_any _ _ MP MQ HN.out _).mono ?_
    rintro e w3 ⟨rfl, hb3⟩
    have R3 := Bw2_2.below hb3
    obtain ⟨z, d0, d1, _, _⟩ := R3.two
    go_wp2_with fail
    refine (allW2_is _ _ _ _ _ HR.out (by simp) (by simp)).mono ?_
    rintro e w4 ⟨rfl, rfl⟩
    go_wp2
    refine bodyPost_ret (by simp [results, Try.results17, go_sem, d0, d1, z]) rfl ⟨rfl, by repeat (first | with_reducible exact own_refl _ | with_reducible assumption | with_reducible apply own_alloc | with_reducible apply own_drewN | with_reducible apply own_drew | ((with_reducible refine own_setCell ?_ ?_ _); rotate_left; focus (first | (simp; done) | (simp; omega))) | (with_reducible (refine own_trans ?_ (by assumption))))⟩

set_option maxHeartbeats 2000000 in
theorem l01Lead_w (a b c d p q P Q : Int) (ea : Ent a) (eb : Ent b) (ec : Ent c) (ed : Ent d) (ep : Ent p) (eq : Ent q) (hn : ¬ (a * p + b * q = 0 ∧ c * p + d * q = 0))
    (hP : lowP (a * p + b * q) (c * p + d * q) = P) (hQ : lowQ (a * p + b * q) (c * p + d * q) = Q)
    (r0 r1 : Int) (r : Bool) (h : (inW P 1000000000 = false ∧ r0 = 0 ∧ r1 = 0 ∧ r = false) ∨ (inW P 1000000000 = true ∧ inW Q 1000000000 = false ∧ r0 = 0 ∧ r1 = 0 ∧ r = false) ∨ (inW P 1000000000 = true ∧ inW Q 1000000000 = true ∧ r0 = P ∧ r1 = Q ∧ r = true)) (w : World) :
    Calls Try.prog 27 #[(.agg #[.int .i64 a, .int .i64 b, .int .i64 c, .int .i64 d]), (.agg #[.int .i64 p, .int .i64 q])] w fun e w' => e = .returned (.tuple #[(.agg #[.int .i64 r0, .int .i64 r1]), .bool r]) ∧ Below w.heap.size w w' := by
  have HN := Lib.hid hn
  have HP := Lib.hid hP
  have HQ := Lib.hid hQ
  have m1 := ent_mul ea ep
  have m2 := ent_mul eb eq
  have m3 := ent_mul ec ep
  have m4 := ent_mul ed eq
  have MP := sum_mid m1 m2
  have MQ := sum_mid m3 m4
  obtain ⟨_, _⟩ := m1
  obtain ⟨_, _⟩ := m2
  obtain ⟨_, _⟩ := m3
  obtain ⟨_, _⟩ := m4
  clear hn hP hQ ea eb ec ed ep eq
  rcases h with ⟨h1, rfl, rfl, rfl⟩ | ⟨h1, h2, rfl, rfl, rfl⟩ | ⟨h1, h2, rfl, rfl, rfl⟩
  all_goals
    go_enter Try.func27, Try.ntmps27
    go_wp2_with fail
    refine (specLow_is _ _ _ _ MP MQ HN.out HP.out HQ.out _).mono ?_
    rintro e w1 ⟨rfl, hb1⟩
    have Bw1_0 : Box w1 (w.heap.size + 1 + 1) [.int .i64 0, .int .i64 0] := by refine Box.below ?_ hb1; repeat (first | with_reducible assumption | with_reducible exact Box.new _ _ _ | (with_reducible refine Box.newAt ?_ _ _; (simp; done)) | with_reducible apply Box.alloc | with_reducible apply Box.drewN | with_reducible apply Box.drew)
    obtain ⟨_, _, _, _, _⟩ := Bw1_0.two
    obtain ⟨z, d0, d1, _, _⟩ := Bw1_0.two
    go_wp2_with (go_at_call 21; refine (l01Entry_any _ _).mono ?_; rintro e w2 ⟨rfl, rfl⟩)
    refine bodyPost_ret (by simp [results, Try.results27, go_sem, d0, d1, z]) rfl ⟨rfl, by repeat (first | with_reducible exact own_refl _ | with_reducible assumption | with_reducible apply own_alloc | with_reducible apply own_drewN | with_reducible apply own_drew | ((with_reducible refine own_setCell ?_ ?_ _); rotate_left; focus (first | (simp; done) | (simp; omega))) | (with_reducible (refine own_trans ?_ (by assumption))))⟩

theorem LF_ex (a b c d p q : Int) : ∃ r0 r1 k, LF a b c d p q r0 r1 k := by
  rcases h : allW [lowP (a * p + b * q) (c * p + d * q), lowQ (a * p + b * q) (c * p + d * q)] 1000000000 with _ | _
  · exact ⟨_, _, _, .inl ⟨h, rfl, rfl, rfl⟩⟩
  · exact ⟨_, _, _, .inr ⟨h, rfl, rfl, rfl⟩⟩
theorem l01Lead_LF (a b c d p q r0 r1 k : Int) (h : isM a b c d = true) (h' : isF p q = true) (hl : LF a b c d p q r0 r1 k) (w : World) :
    Calls Try.prog 27 #[(.agg #[.int .i64 a, .int .i64 b, .int .i64 c, .int .i64 d]), (.agg #[.int .i64 p, .int .i64 q])] w fun e w' => e = .returned (.tuple #[(.agg #[.int .i64 r0, .int .i64 r1]), .bool (k == 0)]) ∧ Below w.heap.size w w' := by
  obtain ⟨ea, eb, ec, ed, hd⟩ := isM_ent h
  obtain ⟨ep, eq, _, _⟩ := isF_ent h'
  refine l01Lead_w a b c d p q _ _ ea eb ec ed ep eq (lead_not hd h') rfl rfl _ _ _ ?_ w
  rcases hl with ⟨hr, rfl, rfl, rfl⟩ | ⟨hr, rfl, rfl, rfl⟩
  · simp only [allW, List.all_cons, List.all_nil, Bool.and_true, Bool.and_eq_false_iff] at hr
    rcases hr with hr | hr
    · exact .inl ⟨hr, rfl, rfl, rfl⟩
    · rcases h1 : inW (lowP (a * p + b * q) (c * p + d * q)) 1000000000 with _ | _
      · exact .inl ⟨rfl, rfl, rfl, rfl⟩
      · exact .inr (.inl ⟨rfl, hr, rfl, rfl, rfl⟩)
  · simp only [allW, List.all_cons, List.all_nil, Bool.and_true, Bool.and_eq_true] at hr
    exact .inr (.inr ⟨hr.1, hr.2, rfl, rfl, rfl⟩)

set_option maxHeartbeats 1000000 in
theorem specLead_no1 (a b c d p q : Int) (h : isM a b c d = false) (w : World) :
    Calls Try.prog 15 #[(.agg #[.int .i64 a, .int .i64 b, .int .i64 c, .int .i64 d]), (.agg #[.int .i64 p, .int .i64 q])] w fun e w' => e = .returned (.tuple #[(.agg #[.int .i64 0, .int .i64 0]), (.int .i64 1)]) ∧ Below w.heap.size w w' := by
  have H := Lib.hid h
  clear h
  go_enter Try.func15, Try.ntmps15
  go_wp2_with fail
  refine (l01Is_is false _ _ _ _ _ H.out).mono ?_
  rintro e w1 ⟨rfl, hb1⟩
  have R1 : Box w1 (w.heap.size + 1 + 1) [.int .i64 0, .int .i64 0] := Box.below (Box.newAt (by simp) _ _) hb1
  obtain ⟨_, d0, d1, _, _⟩ := R1.two
  go_wp2
  exact bodyPost_ret (v := .tuple #[(.agg #[.int .i64 0, .int .i64 0]), (.int .i64 1)]) (by simp [results, Try.results15, go_sem, d0, d1]) rfl ⟨rfl, by repeat (first | with_reducible exact own_refl _ | with_reducible assumption | with_reducible apply own_alloc | with_reducible apply own_drewN | with_reducible apply own_drew | ((with_reducible refine own_setCell ?_ ?_ _); rotate_left; focus (first | (simp; done) | (simp; omega))) | (with_reducible (refine own_trans ?_ (by assumption))))⟩
set_option maxHeartbeats 1000000 in
theorem specLead_no2 (a b c d p q : Int) (h : isM a b c d = true) (h' : isF p q = false) (w : World) :
    Calls Try.prog 15 #[(.agg #[.int .i64 a, .int .i64 b, .int .i64 c, .int .i64 d]), (.agg #[.int .i64 p, .int .i64 q])] w fun e w' => e = .returned (.tuple #[(.agg #[.int .i64 0, .int .i64 0]), (.int .i64 1)]) ∧ Below w.heap.size w w' := by
  have H := Lib.hid h
  have H' := Lib.hid h'
  clear h h'
  go_enter Try.func15, Try.ntmps15
  go_wp2_with fail
  refine (l01Is_is true _ _ _ _ _ H.out).mono ?_
  rintro e w1 ⟨rfl, hb1⟩
  have Bw1_0 : Box w1 (w.heap.size + 1) [.int .i64 p, .int .i64 q] := by refine Box.below ?_ hb1; repeat (first | with_reducible assumption | with_reducible exact Box.new _ _ _ | (with_reducible refine Box.newAt ?_ _ _; (simp; done)) | with_reducible apply Box.alloc | with_reducible apply Box.drewN | with_reducible apply Box.drew)
  obtain ⟨_, _, _, _, _⟩ := Bw1_0.two
  have Bw1_1 : Box w1 (w.heap.size + 1 + 1) [.int .i64 0, .int .i64 0] := by refine Box.below ?_ hb1; repeat (first | with_reducible assumption | with_reducible exact Box.new _ _ _ | (with_reducible refine Box.newAt ?_ _ _; (simp; done)) | with_reducible apply Box.alloc | with_reducible apply Box.drewN | with_reducible apply Box.drew)
  obtain ⟨_, _, _, _, _⟩ := Bw1_1.two
  go_wp2_with fail
  refine (l01Fraction_is false _ _ H'.out _).mono ?_
  rintro e w2 ⟨rfl, hb2⟩
  obtain ⟨_, d0, d1, _, _⟩ := (Bw1_1.below hb2).two
  go_wp2
  exact bodyPost_ret (v := .tuple #[(.agg #[.int .i64 0, .int .i64 0]), (.int .i64 1)]) (by simp [results, Try.results15, go_sem, d0, d1]) rfl ⟨rfl, by repeat (first | with_reducible exact own_refl _ | with_reducible assumption | with_reducible apply own_alloc | with_reducible apply own_drewN | with_reducible apply own_drew | ((with_reducible refine own_setCell ?_ ?_ _); rotate_left; focus (first | (simp; done) | (simp; omega))) | (with_reducible (refine own_trans ?_ (by assumption))))⟩
set_option maxHeartbeats 2000000 in
theorem specLead_yes (a b c d p q r0 r1 k : Int) (h : isM a b c d = true) (h' : isF p q = true) (hl : LF a b c d p q r0 r1 k) (w : World) :
    Calls Try.prog 15 #[(.agg #[.int .i64 a, .int .i64 b, .int .i64 c, .int .i64 d]), (.agg #[.int .i64 p, .int .i64 q])] w fun e w' => e = .returned (.tuple #[(.agg #[.int .i64 r0, .int .i64 r1]), (.int .i64 k)]) ∧ Below w.heap.size w w' := by
  have H := Lib.hid h
  have H' := Lib.hid h'
  have HL := Lib.hid hl
  have hk : (r0 = 0 ∧ r1 = 0 ∧ k = 3) ∨ k = 0 := by
    rcases hl with ⟨_, h1, h2, h3⟩ | ⟨_, _, _, h3⟩
    · exact .inl ⟨h1, h2, h3⟩
    · exact .inr h3
  clear h h' hl
  rcases hk with ⟨rfl, rfl, rfl⟩ | rfl
  all_goals
    go_enter Try.func15, Try.ntmps15
    go_wp2_with fail
    refine (l01Is_is true _ _ _ _ _ H.out).mono ?_
    rintro e w1 ⟨rfl, hb1⟩
    have Bw1_0 : Box w1 (w.heap.size) [.int .i64 a, .int .i64 b, .int .i64 c, .int .i64 d] := by refine Box.below ?_ hb1; repeat (first | with_reducible assumption | with_reducible exact Box.new _ _ _ | (with_reducible refine Box.newAt ?_ _ _; (simp; done)) | with_reducible apply Box.alloc | with_reducible apply Box.drewN | with_reducible apply Box.drew)
    obtain ⟨_, _, _, _, _, _, _, _, _⟩ := Bw1_0.four
    have Bw1_1 : Box w1 (w.heap.size + 1) [.int .i64 p, .int .i64 q] := by refine Box.below ?_ hb1; repeat (first | with_reducible assumption | with_reducible exact Box.new _ _ _ | (with_reducible refine Box.newAt ?_ _ _; (simp; done)) | with_reducible apply Box.alloc | with_reducible apply Box.drewN | with_reducible apply Box.drew)
    obtain ⟨_, _, _, _, _⟩ := Bw1_1.two
    have Bw1_2 : Box w1 (w.heap.size + 1 + 1) [.int .i64 0, .int .i64 0] := by refine Box.below ?_ hb1; repeat (first | with_reducible assumption | with_reducible exact Box.new _ _ _ | (with_reducible refine Box.newAt ?_ _ _; (simp; done)) | with_reducible apply Box.alloc | with_reducible apply Box.drewN | with_reducible apply Box.drew)
    obtain ⟨_, _, _, _, _⟩ := Bw1_2.two
    go_wp2_with fail
    refine (l01Fraction_is true _ _ H'.out _).mono ?_
    rintro e w2 ⟨rfl, hb2⟩
    have Bw2_0 : Box w2 (w.heap.size) [.int .i64 a, .int .i64 b, .int .i64 c, .int .i64 d] := by refine Box.below ?_ hb2; repeat (first | with_reducible assumption | with_reducible exact Box.new _ _ _ | (with_reducible refine Box.newAt ?_ _ _; (simp; done)) | with_reducible apply Box.alloc | with_reducible apply Box.drewN | with_reducible apply Box.drew)
    obtain ⟨_, _, _, _, _, _, _, _, _⟩ := Bw2_0.four
    have Bw2_1 : Box w2 (w.heap.size + 1) [.int .i64 p, .int .i64 q] := by refine Box.below ?_ hb2; repeat (first | with_reducible assumption | with_reducible exact Box.new _ _ _ | (with_reducible refine Box.newAt ?_ _ _; (simp; done)) | with_reducible apply Box.alloc | with_reducible apply Box.drewN | with_reducible apply Box.drew)
    obtain ⟨_, _, _, _, _⟩ := Bw2_1.two
    have Bw2_2 : Box w2 (w.heap.size + 1 + 1) [.int .i64 0, .int .i64 0] := by refine Box.below ?_ hb2; repeat (first | with_reducible assumption | with_reducible exact Box.new _ _ _ | (with_reducible refine Box.newAt ?_ _ _; (simp; done)) | with_reducible apply Box.alloc | with_reducible apply Box.drewN | with_reducible apply Box.drew)
    obtain ⟨_, _, _, _, _⟩ := Bw2_2.two
    go_wp2_with fail
    refine (l01Lead_LF _ _ _ _ _ _ _ _ _ H.out H'.out HL.out _).mono ?_
    rintro e w3 ⟨rfl, hb3⟩
    have R3 := Bw2_2.below hb3
    obtain ⟨z, d0, d1, _, _⟩ := R3.two
    go_wp2
    refine bodyPost_ret (by simp [results, Try.results15, go_sem, d0, d1, z]) rfl ⟨rfl, by repeat (first | with_reducible exact own_refl _ | with_reducible assumption | with_reducible apply own_alloc | with_reducible apply own_drewN | with_reducible apply own_drew | ((with_reducible refine own_setCell ?_ ?_ _); rotate_left; focus (first | (simp; done) | (simp; omega))) | (with_reducible (refine own_trans ?_ (by assumption))))⟩

theorem lawLeadFraction_walk (a b c d p q : Int) (_ : I64 a) (_ : I64 b) (_ : I64 c) (_ : I64 d) (_ : I64 p) (_ : I64 q) (w : World) :
    Calls Try.prog 6 #[(.agg #[.int .i64 a, .int .i64 b, .int .i64 c, .int .i64 d]), (.agg #[.int .i64 p, .int .i64 q])] w fun e w' => e = .returned (.bool true) ∧ Below w.heap.size w w' := by
  rcases h : isM a b c d with _ | _
  · exact lawLeadFraction_of a b c d p q 0 0 1 (fun w => specLead_no1 a b c d p q h w) (fun w => implLead_no1 a b c d p q h w) w
  · rcases h' : isF p q with _ | _
    · exact lawLeadFraction_of a b c d p q 0 0 1 (fun w => specLead_no2 a b c d p q h h' w) (fun w => implLead_no2 a b c d p q h h' w) w
    · obtain ⟨r0, r1, k, hl⟩ := LF_ex a b c d p q
      exact lawLeadFraction_of a b c d p q r0 r1 k (fun w => specLead_yes a b c d p q r0 r1 k h h' hl w) (fun w => implLead_yes a b c d p q r0 r1 k h h' hl w) w
end Go.Proofs.Ytamibhpaamhjmab
