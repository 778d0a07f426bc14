/- Contract of spec.l01Product. -/
import Derived.Test.YtamibhpaamhjmaaDoorMat
import Derived.Test.YtamibhpaamhjmaaDoorMul
namespace Go.Proofs.YtamibhpaamhjmaaDoor
open Go.ChangeShapes Go.WideShapes Go.ChangeAt Go.RowKit

theorem sp_drop_yes {ms : List Mat} {p : Mat} {k : Nat} (hk : k < ms.length) (h : (p.mul ms[k]).ok = true) : prod p (ms.drop k) = prod (p.mul ms[k]) (ms.drop (k + 1)) := by
  rw [List.drop_eq_getElem_cons hk, prod, if_pos h]
theorem sp_drop_no {ms : List Mat} {p : Mat} {k : Nat} (hk : k < ms.length) (h : (p.mul ms[k]).ok = false) : prod p (ms.drop k) = none := by
  rw [List.drop_eq_getElem_cons hk, prod, if_neg (by simp [h])]
theorem sp_drop_end {ms : List Mat} {p : Mat} : prod p (ms.drop ms.length) = some p := by
  rw [List.drop_of_length_le (Nat.le_refl _), prod]
/-- What the product of a list of matrices, from its first one on, comes to. -/
def SP (ms : List Mat) (r : Mat) (k : Int) : Prop :=
  ∃ h : 0 < ms.length, (prod ms[0] (ms.drop 1) = none ∧ r = Mat.zero ∧ k = 3) ∨ (prod ms[0] (ms.drop 1) = some r ∧ k = 0)

/-- What l01Times comes to. -/
def TM (p m q : Mat) (b : Bool) : Prop := ((p.mul m).ok = true ∧ q = p.mul m ∧ b = true) ∨ ((p.mul m).ok = false ∧ q = Mat.zero ∧ b = false)
theorem TM.any (p m : Mat) : ∃ q b, TM p m q b := by
  rcases h : (p.mul m).ok with _ | _
  · exact ⟨_, _, .inr ⟨h, rfl, rfl⟩⟩
  · exact ⟨_, _, .inl ⟨h, rfl, rfl⟩⟩
theorem times_is (p m q : Mat) (b : Bool) (ha : Ent p.a) (hb : Ent p.b) (hc : Ent p.c) (hd : Ent p.d) (he : Ent m.a) (hf : Ent m.b) (hg : Ent m.c) (hh : Ent m.d) (h : TM p m q b) (w : World) :
    Calls Tryd.prog 36 #[(.agg #[.int .i64 p.a, .int .i64 p.b, .int .i64 p.c, .int .i64 p.d]), (.agg #[.int .i64 m.a, .int .i64 m.b, .int .i64 m.c, .int .i64 m.d])] w fun r w' => r = .returned (.tuple #[(.agg #[.int .i64 q.a, .int .i64 q.b, .int .i64 q.c, .int .i64 q.d]), .bool b]) ∧ Below w.heap.size w w' := by
  rcases h with ⟨h, rfl, rfl⟩ | ⟨h, rfl, rfl⟩
  · exact times_yes _ _ _ _ _ _ _ _ ha hb hc hd he hf hg hh h w
  · exact times_no _ _ _ _ _ _ _ _ ha hb hc hd he hf hg hh h w

set_option maxHeartbeats 2000000 in
theorem specProd_any (ms : List Mat) (g cap : Nat) (hn : ms.length ≤ 1000000) (r : Mat) (kd : Int) (hall : ms.all Mat.is = true) (hSP : SP ms r kd) (w : World) (hB : Box w g (matCells ms)) :
    Calls Tryd.prog 24 #[.slice (some ⟨g, 0, none⟩) ms.length cap] w fun e w' => e = .returned (.tuple #[(.agg #[.int .i64 r.a, .int .i64 r.b, .int .i64 r.c, .int .i64 r.d]), (.int .i64 kd)]) ∧ Below w.heap.size w w' := by
  obtain ⟨h0, hSP⟩ := hSP
  have hg := hB.1
  have hn0 : ¬ (g = w.heap.size) := by omega
  have HP := Lib.hid hSP
  have HALL : Hid (∀ k (hk : k < ms.length), ms[k].is = true) := Lib.hid fun k hk => List.all_eq_true.1 hall _ (List.getElem_mem hk)
  clear hSP hall
  obtain ⟨c0, c1, c2, c3⟩ := box_at hB 0 h0
  simp only [Nat.zero_mul, Nat.zero_add] at c0 c1 c2 c3
  obtain ⟨m0, hm0⟩ : ∃ m, ms[0] = m := ⟨_, rfl⟩
  rw [hm0] at c0 c1 c2 c3
  have HM0 := Lib.hid hm0
  clear hm0
  go_enter Tryd.func24, Tryd.ntmps24
  go_wp2
  have B1 : Box w g (matCells ms) := hB
  go_loopw [5] (fun i wx => ∃ (k : Nat) (p : Mat), 1 ≤ k ∧ k ≤ ms.length ∧ i = (.int .i64 k) ∧ p.ok = true ∧ prod m0 (ms.drop 1) = prod p (ms.drop k) ∧ Below w.heap.size w wx ∧ Box wx w.heap.size [.int .i64 0, .int .i64 0, .int .i64 0, .int .i64 0] ∧ Box wx (w.heap.size + 1) p.cells ∧ Box wx g (matCells ms)) (fun i _ => ms.length - (intOf i).toNat)
  case atStart => exact ⟨1, m0, Nat.le_refl _, h0, rfl, Mat.is_ok (HM0.out ▸ HALL.out 0 h0), rfl, by repeat (first | with_reducible exact own_refl _ | with_reducible assumption | with_reducible apply own_alloc | with_reducible apply own_drewN | with_reducible apply own_drew | ((with_reducible refine own_setCell ?_ ?_ _); rotate_left; focus (first | (simp; done) | (simp; omega))) | (with_reducible (refine own_trans ?_ (by assumption)))), (Box.new _ _ _).alloc _, Box.newAt (by simp) _ _, (hB.alloc _).alloc _⟩
  case round =>
    obtain ⟨k, p, hk1, hk, rfl, hpok, hpr, hbx, hR, hP, hM⟩ := hrel
    have HR := Lib.hid hpr
    clear hpr
    obtain ⟨ea, eb, ec, ed⟩ := Mat.ok_ent hpok
    obtain ⟨hzz, p0, p1, p2, p3, _, _, _, _⟩ := hP.four
    obtain ⟨_, d0, d1, d2, d3, _, _, _, _⟩ := hR.four
    have hn1 : ¬ (wr.heap.size = w.heap.size + 1) := by omega
    have hn2 : ¬ (wr.heap.size = g) := by have := hM.1; omega
    have hn3 : ¬ (wr.heap.size = w.heap.size) := by omega
    by_cases hlt : k < ms.length
    · obtain ⟨c0, c1, c2, c3⟩ := box_at hM k hlt
      obtain ⟨fa, fb, fc, fd, _⟩ := Mat.is_ent (HALL.out k hlt)
      have HN := Lib.hid (fun h => sp_drop_no (p := p) hlt h)
      have HY := Lib.hid (fun h => sp_drop_yes (p := p) hlt h)
      have hkn : (k : Int) < (ms.length : Int) := by omega
      have hk0 : (0 : Int) ≤ (k : Int) := by omega
      obtain ⟨m, hm⟩ : ∃ m, ms[k] = m := ⟨_, rfl⟩
      rw [hm] at c0 c1 c2 c3 fa fb fc fd HN HY
      have HT : Hid (∀ w1 : World, Box w1 g (matCells ms) → w1.cell? ⟨g, k * 4, none⟩ = some (.int .i64 m.a) ∧ w1.cell? ⟨g, k * 4 + 1, none⟩ = some (.int .i64 m.b) ∧ w1.cell? ⟨g, k * 4 + 2, none⟩ = some (.int .i64 m.c) ∧ w1.cell? ⟨g, k * 4 + 3, none⟩ = some (.int .i64 m.d)) := Lib.hid fun _ h => box_at' h k hlt hm
      clear hm
      obtain ⟨q, b, hqb⟩ : ∃ (q : Mat) (b : Bool), TM p m q b := TM.any p m
      have HQ := Lib.hid hqb
      clear hqb
      go_upto_region 5 with fail
      go_cut [6, 7] (fun s6 s7 wx => ∃ g6 : Nat, s6 = .pointer (some ⟨g6, 0, none⟩) ∧ s7 = .bool b ∧ w.heap.size + 1 < g6 ∧ g < g6 ∧ Below w.heap.size w wx ∧ Box wx w.heap.size [.int .i64 0, .int .i64 0, .int .i64 0, .int .i64 0] ∧ Box wx (w.heap.size + 1) p.cells ∧ Box wx g (matCells ms) ∧ Box wx g6 q.cells)
      case first =>
        go_region_held3 (fun w' => w'.cell? ⟨w.heap.size + 1, 0, none⟩ = some (.int .i64 p.a) ∧ w'.cell? ⟨w.heap.size + 1, 1, none⟩ = some (.int .i64 p.b) ∧ w'.cell? ⟨w.heap.size + 1, 2, none⟩ = some (.int .i64 p.c) ∧ w'.cell? ⟨w.heap.size + 1, 3, none⟩ = some (.int .i64 p.d) ∧ w'.cell? ⟨g, k * 4, none⟩ = some (.int .i64 m.a) ∧ w'.cell? ⟨g, k * 4 + 1, none⟩ = some (.int .i64 m.b) ∧ w'.cell? ⟨g, k * 4 + 2, none⟩ = some (.int .i64 m.c) ∧ w'.cell? ⟨g, k * 4 + 3, none⟩ = some (.int .i64 m.d)) (go_keep)
          (first | (go_at_call 36; refine (times_is p m q b ea eb ec ed fa fb fc fd HQ.out _).mono ?_; rintro e w1 ⟨rfl, hb1⟩; have P1 := Box.below (by first | exact Box.drew hP | exact Box.drew (Box.alloc hP _) | exact Box.alloc (Box.drew hP) _) hb1; have M1 := Box.below (by first | exact Box.drew hM | exact Box.drew (Box.alloc hM _) | exact Box.alloc (Box.drew hM) _) hb1; have R1 := Box.below (by first | exact Box.drew hR | exact Box.drew (Box.alloc hR _) | exact Box.alloc (Box.drew hR) _) hb1; obtain ⟨_, _, _, _, _, _, _, _, _⟩ := P1.four; obtain ⟨_, _, _, _, _, _, _, _, _⟩ := R1.four; have M2 := HT.out _ M1; obtain ⟨_, _, _, _⟩ := M2; first | (have N1 : Box w1 wr.heap.size [.int .i64 0, .int .i64 0, .int .i64 0, .int .i64 0] := Box.below (by first | exact Box.drew (Box.new _ _ _) | exact Box.newAt rfl _ _) hb1; obtain ⟨_, _, _, _, _, _, _, _, _⟩ := N1.four) | skip))
        all_goals
          go_wp2_with fail
          go_meet
          first
            | exact ⟨_, rfl, rfl, P1.1, M1.1, by repeat (first | with_reducible exact own_refl _ | with_reducible assumption | with_reducible apply own_alloc | with_reducible apply own_drewN | with_reducible apply own_drew | ((with_reducible refine own_setCell ?_ ?_ _); rotate_left; focus (first | (simp; done) | (simp; omega))) | (with_reducible (refine own_trans ?_ (by assumption)))), R1.alloc _, P1.alloc _, M1.alloc _, Box.new _ _ _⟩
            | exact ⟨_, rfl, rfl, hzz, hM.1, by repeat (first | with_reducible exact own_refl _ | with_reducible assumption | with_reducible apply own_alloc | with_reducible apply own_drewN | with_reducible apply own_drew | ((with_reducible refine own_setCell ?_ ?_ _); rotate_left; focus (first | (simp; done) | (simp; omega))) | (with_reducible (refine own_trans ?_ (by assumption)))), ((((R1.far (Ne.symm hn3) _).far (Ne.symm hn3) _).far (Ne.symm hn3) _).far (Ne.symm hn3) _), ((((P1.far (Ne.symm hn1) _).far (Ne.symm hn1) _).far (Ne.symm hn1) _).far (Ne.symm hn1) _), ((((M1.far (Ne.symm hn2) _).far (Ne.symm hn2) _).far (Ne.symm hn2) _).far (Ne.symm hn2) _), N1.put4 _ _ _ _⟩
      case rest =>
        obtain ⟨g6, rfl, rfl, hg6, hgg, hbx, hR, hP, hM, hQ⟩ := hcut
        have e1 : ¬ (w.heap.size = w.heap.size + 1) := by omega
        have e2 : ¬ (g = w.heap.size + 1) := by omega
        obtain ⟨_, d0, d1, d2, d3, _, _, _, _⟩ := hR.four
        obtain ⟨_, _, _, _, _, _, _, _, _⟩ := hP.four
        obtain ⟨_, _, _, _, _, _, _, _, _⟩ := hQ.four
        rcases HQ.out with ⟨hok, hq1, hb1⟩ | ⟨hok, hq1, hb1⟩
        · have HE := Lib.hid (HR.out.trans (HY.out hok))
          have HO := Lib.hid hok
          have HQ1 := Lib.hid hq1
          clear hok hq1
          subst hb1
          go_wp2
          go_roundw
          case rel => exact ⟨k + 1, q, by omega, by omega, by go_num, by rw [HQ1.out]; exact HO.out, by rw [HQ1.out]; exact HE.out, by repeat (first | with_reducible exact own_refl _ | with_reducible assumption | with_reducible apply own_alloc | with_reducible apply own_drewN | with_reducible apply own_drew | ((with_reducible refine own_setCell ?_ ?_ _); rotate_left; focus (first | (simp; done) | (simp; omega))) | (with_reducible (refine own_trans ?_ (by assumption)))), ((((hR.far e1 _).far e1 _).far e1 _).far e1 _), hP.put4 _ _ _ _, ((((hM.far e2 _).far e2 _).far e2 _).far e2 _)⟩
          case measure => simp [intOf]; omega
        · have HE := Lib.hid (HR.out.trans (HN.out hok))
          clear hok hq1
          subst hb1
          go_wp2
          refine bodyPost_ret (v := .tuple #[(.agg #[.int .i64 0, .int .i64 0, .int .i64 0, .int .i64 0]), (.int .i64 3)]) (by simp [results, Tryd.results24, go_sem, d0, d1, d2, d3]) rfl ⟨?_, by repeat (first | with_reducible exact own_refl _ | with_reducible assumption | with_reducible apply own_alloc | with_reducible apply own_drewN | with_reducible apply own_drew | ((with_reducible refine own_setCell ?_ ?_ _); rotate_left; focus (first | (simp; done) | (simp; omega))) | (with_reducible (refine own_trans ?_ (by assumption))))⟩
          rcases HP.out with ⟨_, h1, h2⟩ | ⟨h1, _⟩
          · subst h1 h2
            rfl
          · rw [HM0.out, HE.out] at h1; cases h1
    · have HE2 : Hid (prod m0 (ms.drop 1) = some p) := by have := HR.out; rwa [show k = ms.length by omega, sp_drop_end] at this
      go_wp2
      refine bodyPost_ret (v := .tuple #[(.agg #[.int .i64 p.a, .int .i64 p.b, .int .i64 p.c, .int .i64 p.d]), (.int .i64 0)]) (by simp [results, Tryd.results24, go_sem, d0, d1, d2, d3]) rfl ⟨?_, by repeat (first | with_reducible exact own_refl _ | with_reducible assumption | with_reducible apply own_alloc | with_reducible apply own_drewN | with_reducible apply own_drew | ((with_reducible refine own_setCell ?_ ?_ _); rotate_left; focus (first | (simp; done) | (simp; omega))) | (with_reducible (refine own_trans ?_ (by assumption))))⟩
      rcases HP.out with ⟨h1, _⟩ | ⟨h1, h2⟩
      · rw [HM0.out, HE2.out] at h1; cases h1
      · rw [HM0.out, HE2.out] at h1
        injection h1 with h1
        subst h1 h2
        rfl
end Go.Proofs.YtamibhpaamhjmaaDoor
