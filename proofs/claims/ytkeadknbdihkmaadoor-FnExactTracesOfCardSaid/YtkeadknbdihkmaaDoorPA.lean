/- Contract of impl.productOfAll. -/
import Derived.Test.YtkeadknbdihkmaaDoorMat
import Derived.Test.YtkeadknbdihkmaaDoorMul
namespace Go.Proofs.YtkeadknbdihkmaaDoor
open Go.ChangeShapes Go.WideShapes Go.ChangeAt Go.RowKit

/-- The package's table 'identity' holds 1, 0, 0, 1. -/
def Idn (w : World) : Prop := Rd w 1 [.int .i64 1, .int .i64 0, .int .i64 0, .int .i64 1]

theorem PA_bad {ms : List Mat} {r : Mat} {kd : Int} (h : PA ms r kd) (k : Nat) (hk : k < ms.length) (hm : ms[k].is = false) : r = Mat.zero ∧ kd = 1 := by
  have hf : ms.all Mat.is = false := List.all_eq_false.2 ⟨ms[k], List.getElem_mem hk, by simp [hm]⟩
  rcases h with ⟨_, h1, h2⟩ | ⟨h, _⟩ | ⟨h, _⟩
  · exact ⟨h1, h2⟩
  · rw [hf] at h; cases h
  · rw [hf] at h; cases h
theorem PA_good {ms : List Mat} {r : Mat} {kd : Int} (h : PA ms r kd) (ha : ms.all Mat.is = true) : (prod Mat.one ms = none ∧ r = Mat.zero ∧ kd = 3) ∨ (prod Mat.one ms = some r ∧ kd = 0) := by
  rcases h with ⟨h, _⟩ | ⟨_, h⟩ | ⟨_, h⟩
  · rw [ha] at h; cases h
  · exact .inl h
  · exact .inr h
theorem all_step {ms : List Mat} {k : Nat} (hk : k < ms.length) (h : (ms.take k).all Mat.is = true) (hm : ms[k].is = true) : (ms.take (k + 1)).all Mat.is = true := by
  rw [List.take_succ_eq_append_getElem hk, List.all_append, h]
  simp [hm]
theorem all_get {ms : List Mat} (h : ms.all Mat.is = true) (k : Nat) (hk : k < ms.length) : ms[k].is = true := List.all_eq_true.1 h _ (List.getElem_mem hk)
theorem ret_mat {a b c d k a' b' c' d' k' : Int} (h1 : a = a') (h2 : b = b') (h3 : c = c') (h4 : d = d') (h5 : k = k') : Ending.returned (.tuple #[(.agg #[.int .i64 a, .int .i64 b, .int .i64 c, .int .i64 d]), (.int .i64 k)]) = Ending.returned (.tuple #[(.agg #[.int .i64 a', .int .i64 b', .int .i64 c', .int .i64 d']), (.int .i64 k')]) := by
  subst h1 h2 h3 h4 h5; rfl
theorem prod_drop_yes {ms : List Mat} {p : Mat} {k : Nat} (hk : k < ms.length) (h : (p.mul ms[k]).ok = true) : prod p (ms.drop k) = prod (p.mul ms[k]) (ms.drop (k + 1)) := by
  rw [List.drop_eq_getElem_cons hk, prod, if_pos h]
theorem prod_drop_no {ms : List Mat} {p : Mat} {k : Nat} (hk : k < ms.length) (h : (p.mul ms[k]).ok = false) : prod p (ms.drop k) = none := by
  rw [List.drop_eq_getElem_cons hk, prod, if_neg (by simp [h])]
theorem prod_drop_end {ms : List Mat} {p : Mat} : prod p (ms.drop ms.length) = some p := by
  rw [List.drop_of_length_le (Nat.le_refl _), prod]

set_option maxHeartbeats 2000000 in
theorem prodAll_any (ms : List Mat) (g cap : Nat) (hn : ms.length ≤ 1000000) (r : Mat) (kd : Int) (hPA : PA ms r kd) (w : World) (hid : Idn w) (hB : Box w g (matCells ms)) :
    Calls Tryd.prog 52 #[.slice (some ⟨g, 0, none⟩) ms.length cap] w fun e w' => e = .returned (.tuple #[(.agg #[.int .i64 r.a, .int .i64 r.b, .int .i64 r.c, .int .i64 r.d]), (.int .i64 kd)]) ∧ Below w.heap.size w w' := by
  have HP := Lib.hid hPA
  clear hPA
  go_enter Tryd.func52, Tryd.ntmps52
  go_wp2
  go_loopw [11] (fun i wr => ∃ k : Nat, k ≤ ms.length ∧ i = (.int .i64 k) ∧ Below (w.heap.size + 1) (w.alloc (.cells #[.int .i64 0, .int .i64 0, .int .i64 0, .int .i64 0] 35)) wr ∧ (ms.take k).all Mat.is = true) (fun i _ => ms.length - (intOf i).toNat)
  case atStart => exact ⟨0, Nat.zero_le _, rfl, Below.refl _ _, rfl⟩
  case round =>
    obtain ⟨k, hk, rfl, hb, hall⟩ := hrel
    have HA := Lib.hid hall
    clear hall
    have hb' : Below w.heap.size w wr := own_from hb
    have hz : w.heap.size + 1 ≤ wr.heap.size := by have := hb.size; simpa using this
    have R0 : Box wr w.heap.size [.int .i64 0, .int .i64 0, .int .i64 0, .int .i64 0] := (Box.new w _ _).low hb (Nat.lt_succ_self _)
    by_cases hlt : k < ms.length
    · obtain ⟨c0, c1, c2, c3⟩ := box_at (((hB.alloc _).low hb (Nat.lt_succ_of_lt hB.1))) k hlt
      obtain ⟨m, hm⟩ : ∃ m, ms[k] = m := ⟨_, rfl⟩
      rw [hm] at c0 c1 c2 c3
      rcases hi : m.is with _ | _
      · have HE := Lib.hid (PA_bad HP.out k hlt (by rw [hm]; exact hi))
        have HI := Lib.hid hi
        clear hm hi
        go_wp2_with fail
        refine (implIs_is false _ _ _ _ _ HI.out).mono ?_
        rintro e w1 ⟨rfl, hb1⟩
        obtain ⟨z1, d0, d1, d2, d3, f0, f1, f2, f3⟩ := ((R0.alloc _).below hb1).four
        go_wp2
        refine bodyPost_ret (v := .tuple #[(.agg #[.int .i64 0, .int .i64 0, .int .i64 0, .int .i64 0]), (.int .i64 1)]) (by simp [results, Tryd.results52, go_sem, d0, d1, d2, d3]) rfl ⟨?_, by repeat (first | with_reducible exact own_refl _ | with_reducible assumption | with_reducible apply own_alloc | with_reducible apply own_drewN | with_reducible apply own_drew | ((with_reducible refine own_setCell ?_ ?_ _); rotate_left; focus (first | (simp; done) | (simp; omega))) | (with_reducible (refine own_trans ?_ (by assumption))))⟩
        obtain ⟨h1, h2⟩ := HE.out
        subst h1 h2
        rfl
      · have HY := Lib.hid (all_step hlt HA.out (by rw [hm]; exact hi))
        have HI := Lib.hid hi
        clear hm hi
        go_wp2_with fail
        refine (implIs_is true _ _ _ _ _ HI.out).mono ?_
        rintro e w1 ⟨rfl, hb1⟩
        go_wp2
        go_roundw
        case rel => exact ⟨k + 1, by omega, by go_num, (hb.alloc hz _).trans (hb1.mono (by simp; omega)), HY.out⟩
        case measure => simp [intOf]; omega
    · have HG : Hid (ms.all Mat.is = true) := by have := HA.out; rwa [List.take_of_length_le (by omega)] at this
      obtain ⟨wo, hwo⟩ : ∃ wo : World, wo = wr := ⟨_, rfl⟩
      subst hwo
      have hne : ¬ (w.heap.size = wo.heap.size) := by omega
      have hne' : ¬ (wo.heap.size = w.heap.size) := by omega
      have hng : ¬ (g = wo.heap.size) := by have := hB.1; omega
      obtain ⟨_, _, _, _, _⟩ := (Rd.below hid hb').four
      clear HA
      go_wp2
      go_loopw [23] (fun i wx => ∃ (k : Nat) (p : Mat), k ≤ ms.length ∧ i = (.int .i64 k) ∧ p.ok = true ∧ prod Mat.one ms = prod p (ms.drop k) ∧ Below w.heap.size w wx ∧ Box wx w.heap.size [.int .i64 0, .int .i64 0, .int .i64 0, .int .i64 0] ∧ Box wx wo.heap.size p.cells ∧ Box wx g (matCells ms)) (fun i _ => ms.length - (intOf i).toNat)
      case atStart => exact ⟨0, Mat.one, Nat.zero_le _, rfl, by decide, rfl, own_alloc hb' _, R0.alloc _, Box.new _ _ _, (hB.below hb').alloc _⟩
      case round =>
        obtain ⟨k, p, hk, rfl, hpok, hpr, hbx, hR, hP, hM⟩ := hrel
        have HR := Lib.hid hpr
        clear hpr
        obtain ⟨ea, eb, ec, ed⟩ := Mat.ok_ent hpok
        obtain ⟨_, _, _, _, _, _, _, _, _⟩ := hP.four
        have hgl := hM.1
        by_cases hlt : k < ms.length
        · obtain ⟨c0, c1, c2, c3⟩ := box_at hM k hlt
          obtain ⟨fa, fb, fc, fd, _⟩ := Mat.is_ent (all_get HG.out k hlt)
          have HN := Lib.hid (fun h => prod_drop_no (p := p) hlt h)
          have HY := Lib.hid (fun h => prod_drop_yes (p := p) hlt h)
          obtain ⟨m, hm⟩ : ∃ m, ms[k] = m := ⟨_, rfl⟩
          rw [hm] at c0 c1 c2 c3 fa fb fc fd HN HY
          clear hm
          rcases hq : (p.mul m).ok with _ | _
          · have HE := Lib.hid (HR.out.trans (HN.out hq))
            have HQ : Hid (allW [p.a * m.a + p.b * m.c, p.a * m.b + p.b * m.d, p.c * m.a + p.d * m.c, p.c * m.b + p.d * m.d] 1000000000 = false) := Lib.hid hq
            clear HN HY hq
            go_wp2_with fail
            refine (multiply_ent _ _ _ _ _ _ _ _ ea eb ec ed fa fb fc fd _).mono ?_
            rintro e w1 ⟨rfl, hb1⟩
            have P1 := (hP.alloc _).below hb1
            obtain ⟨_, d0, d1, d2, d3, _, _, _, _⟩ := ((hR.alloc _).below hb1).four
            obtain ⟨_, _, _, _, _, _, _, _, _⟩ := P1.four
            obtain ⟨_, q0, q1, q2, q3, _, _, _, _⟩ := (P1.put4 (.int .i64 (p.a * m.a + p.b * m.c)) (.int .i64 (p.a * m.b + p.b * m.d)) (.int .i64 (p.c * m.a + p.d * m.c)) (.int .i64 (p.c * m.b + p.d * m.d))).four
            go_wp2_with fail
            refine (allW4_is false _ _ _ _ _ _ HQ.out q0 q1 q2 q3).mono ?_
            rintro e w2 ⟨rfl, rfl⟩
            go_wp2
            refine bodyPost_ret (v := .tuple #[(.agg #[.int .i64 0, .int .i64 0, .int .i64 0, .int .i64 0]), (.int .i64 3)]) (by simp [results, Tryd.results52, go_sem, d0, d1, d2, d3]) rfl ⟨?_, by repeat (first | with_reducible exact own_refl _ | with_reducible assumption | with_reducible apply own_alloc | with_reducible apply own_drewN | with_reducible apply own_drew | ((with_reducible refine own_setCell ?_ ?_ _); rotate_left; focus (first | (simp; done) | (simp; omega))) | (with_reducible (refine own_trans ?_ (by assumption))))⟩
            rcases PA_good HP.out HG.out with ⟨_, h1, h2⟩ | ⟨h1, _⟩
            · subst h1 h2
              rfl
            · rw [HE.out] at h1; cases h1
          · have HE := Lib.hid (HR.out.trans (HY.out hq))
            have HQ : Hid (allW [p.a * m.a + p.b * m.c, p.a * m.b + p.b * m.d, p.c * m.a + p.d * m.c, p.c * m.b + p.d * m.d] 1000000000 = true) := Lib.hid hq
            clear HN HY
            have HO := Lib.hid hq
            clear hq
            go_wp2_with fail
            refine (multiply_ent _ _ _ _ _ _ _ _ ea eb ec ed fa fb fc fd _).mono ?_
            rintro e w1 ⟨rfl, hb1⟩
            have P1 := (hP.alloc _).below hb1
            have R1 := (hR.alloc _).below hb1
            have M1 := (hM.alloc _).below hb1
            obtain ⟨_, _, _, _, _, _, _, _, _⟩ := P1.four
            have P2 := P1.put4 (.int .i64 (p.a * m.a + p.b * m.c)) (.int .i64 (p.a * m.b + p.b * m.d)) (.int .i64 (p.c * m.a + p.d * m.c)) (.int .i64 (p.c * m.b + p.d * m.d))
            obtain ⟨_, q0, q1, q2, q3, _, _, _, _⟩ := P2.four
            go_wp2_with fail
            refine (allW4_is true _ _ _ _ _ _ HQ.out q0 q1 q2 q3).mono ?_
            rintro e w2 ⟨rfl, rfl⟩
            clear q0 q1 q2 q3
            go_wp2
            go_roundw
            case rel => exact ⟨k + 1, p.mul m, by omega, by go_num, HO.out, HE.out, by repeat (first | with_reducible exact own_refl _ | with_reducible assumption | with_reducible apply own_alloc | with_reducible apply own_drewN | with_reducible apply own_drew | ((with_reducible refine own_setCell ?_ ?_ _); rotate_left; focus (first | (simp; done) | (simp; omega))) | (with_reducible (refine own_trans ?_ (by assumption)))), (((R1.far hne _).far hne _).far hne _).far hne _, P2, (((M1.far hng _).far hng _).far hng _).far hng _⟩
            case measure => simp [intOf]; omega
        · have HE2 : Hid (prod Mat.one ms = some p) := by have := HR.out; rwa [show k = ms.length by omega, prod_drop_end] at this
          obtain ⟨_, d0, d1, d2, d3, _, _, _, _⟩ := hR.four
          go_wp2
          refine bodyPost_ret (v := .tuple #[(.agg #[.int .i64 p.a, .int .i64 p.b, .int .i64 p.c, .int .i64 p.d]), (.int .i64 0)]) (by simp [results, Tryd.results52, go_sem, d0, d1, d2, d3]) rfl ⟨?_, by repeat (first | with_reducible exact own_refl _ | with_reducible assumption | with_reducible apply own_alloc | with_reducible apply own_drewN | with_reducible apply own_drew | ((with_reducible refine own_setCell ?_ ?_ _); rotate_left; focus (first | (simp; done) | (simp; omega))) | (with_reducible (refine own_trans ?_ (by assumption))))⟩
          rcases PA_good HP.out HG.out with ⟨h1, _⟩ | ⟨h1, h2⟩
          · rw [HE2.out] at h1; cases h1
          · rw [HE2.out] at h1
            injection h1 with h1
            subst h1 h2
            rfl
end Go.Proofs.YtkeadknbdihkmaaDoor
