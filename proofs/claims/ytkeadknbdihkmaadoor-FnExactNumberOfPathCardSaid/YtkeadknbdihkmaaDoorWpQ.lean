/- The pair to which a path leads: the program's side. -/
import Derived.Test.YtkeadknbdihkmaaDoorWpA
import Derived.Test.YtkeadknbdihkmaaDoorIdxS
namespace Go.Proofs.YtkeadknbdihkmaaDoor
open Go.ChangeShapes Go.WideShapes Go.ChangeAt Go.RowKit

def stepsOk (bs : List UInt8) : Bool := bs.all fun c => c == 76 || c == 82
def stepW (p : ByteArray × ByteArray) (c : UInt8) : ByteArray × ByteArray := if c = 76 then (p.1, p.1 ++ p.2) else (p.1 ++ p.2, p.2)
def pathW (bs : List UInt8) : ByteArray × ByteArray := bs.foldl stepW (⟨#[97]⟩, ⟨#[98]⟩)
theorem pathW_step (s : ByteArray) (k : Nat) (hk : k < s.size) : pathW (s.data.toList.take (k + 1)) = stepW (pathW (s.data.toList.take k)) s[k] := by
  have hl : k < s.data.toList.length := by rw [str_len]; exact hk
  rw [List.take_succ_eq_append_getElem hl, str_at s k hk hl]
  unfold pathW
  rw [List.foldl_append]
  rfl
theorem stepsOk_take (s : ByteArray) (k : Nat) (hk : k < s.size) (h : stepsOk (s.data.toList.take k) = true) (hc : s[k] = 76 ∨ s[k] = 82) : stepsOk (s.data.toList.take (k + 1)) = true := by
  have hl : k < s.data.toList.length := by rw [str_len]; exact hk
  rw [List.take_succ_eq_append_getElem hl, str_at s k hk hl]
  unfold stepsOk at *
  rw [List.all_append, h]
  rcases hc with hc | hc <;> simp [hc]
theorem stepsOk_stop (s : ByteArray) (k : Nat) (hk : k < s.size) (h1 : s[k] ≠ 76) (h2 : s[k] ≠ 82) : stepsOk s.data.toList = false := by
  have hl : k < s.data.toList.length := by rw [str_len]; exact hk
  refine List.all_eq_false.2 ⟨s.data.toList[k], List.getElem_mem hl, ?_⟩
  rw [str_at s k hk hl]
  simp [h1, h2]
theorem take_all (s : ByteArray) (k : Nat) (hk : k = s.size) : s.data.toList.take k = s.data.toList := List.take_of_length_le (by rw [str_len]; omega)
/-- how long the words of a pair may be -/
def Szs (u v : ByteArray) (k : Nat) : Prop := 1 ≤ u.size ∧ 1 ≤ v.size ∧ u.size + v.size ≤ 2 ^ (k + 1)
theorem Szs.bd {u v : ByteArray} {k : Nat} (h : Szs u v k) (hk : k ≤ 12) : u.size ≤ 10000 ∧ v.size ≤ 10000 ∧ 1 ≤ v.size := by
  obtain ⟨h1, h2, h3⟩ := h
  have : 2 ^ (k + 1) ≤ 2 ^ 13 := Nat.pow_le_pow_right (by omega) (by omega)
  omega
theorem Szs.L {u v : ByteArray} {k : Nat} (h : Szs u v k) : Szs u (u ++ v) (k + 1) := by
  obtain ⟨h1, h2, h3⟩ := h
  unfold Szs
  rw [ByteArray.size_append, Nat.pow_succ]
  omega
theorem Szs.R {u v : ByteArray} {k : Nat} (h : Szs u v k) : Szs (u ++ v) v (k + 1) := by
  obtain ⟨h1, h2, h3⟩ := h
  unfold Szs
  rw [ByteArray.size_append, Nat.pow_succ]
  omega
theorem neq_list {a b : ByteArray} (h : a.size ≠ b.size) : (a.toList == b.toList) = false := by
  rw [beq_eq_false_iff_ne, ByteArray.toList_eq, ByteArray.toList_eq]
  intro e
  exact h (by rw [← str_len a, ← str_len b, e])

set_option maxHeartbeats 1000000 in
theorem implPair_long (s : ByteArray) (h : ¬ s.size ≤ 12) (w : World) :
    Calls Tryd.prog 57 #[.string s] w fun e w' => e = .returned (.tuple #[.agg #[.string ByteArray.empty, .string ByteArray.empty], (.int .i64 2)]) ∧ Below w.heap.size w w' := by
  have h1 : (12 : Int) < (s.size : Int) := by omega
  go_enter Tryd.func57, Tryd.ntmps57
  go_wp2
  exact bodyPost_ret (v := .tuple #[.agg #[.string ByteArray.empty, .string ByteArray.empty], (.int .i64 2)]) (by simp [results, Tryd.results57, go_sem]; rfl) rfl ⟨rfl, by repeat (first | with_reducible exact own_refl _ | with_reducible assumption | with_reducible apply own_alloc | with_reducible apply own_drewN | with_reducible apply own_drew | ((with_reducible refine own_setCell ?_ ?_ _); rotate_left; focus (first | (simp; done) | (simp; omega))) | (with_reducible (refine own_trans ?_ (by assumption))))⟩
set_option maxHeartbeats 8000000 in
theorem implPair_yes (s : ByteArray) (h : s.size ≤ 12) (ho : stepsOk s.data.toList = true) (u v : ByteArray) (hw : pathW s.data.toList = (u, v)) (w : World) :
    Calls Tryd.prog 57 #[.string s] w fun e w' => e = .returned (.tuple #[.agg #[.string u, .string v], (.int .i64 0)]) ∧ Below w.heap.size w w' := by
  have HO := Lib.hid ho
  have h1 : ¬ (12 : Int) < (s.size : Int) := by omega
  have HW := Lib.hid hw
  clear hw
  clear ho
  go_enter Tryd.func57, Tryd.ntmps57
  go_wp2
  go_loopw [14] (fun i wr => ∃ (k : Nat) (x y : ByteArray), k ≤ s.size ∧ i = (.int .i64 k) ∧ Hid (pathW (s.data.toList.take k) = (x, y) ∧ stepsOk (s.data.toList.take k) = true ∧ Szs x y k) ∧ Below w.heap.size w wr ∧ Box wr w.heap.size [.string ByteArray.empty, .string ByteArray.empty] ∧ Box wr (w.heap.size + 1) [.string x, .string y]) (fun i _ => s.size - (intOf i).toNat)
  case atStart => exact ⟨0, _, _, Nat.zero_le _, rfl, Lib.hid ⟨rfl, rfl, by unfold Szs; decide⟩, by repeat (first | with_reducible exact own_refl _ | with_reducible assumption | with_reducible apply own_alloc | with_reducible apply own_drewN | with_reducible apply own_drew | ((with_reducible refine own_setCell ?_ ?_ _); rotate_left; focus (first | (simp; done) | (simp; omega))) | (with_reducible (refine own_trans ?_ (by assumption)))), Box.alloc (Box.new _ _ _) _, Box.newAt (by simp) _ _⟩
  case round =>
    obtain ⟨k, x, y, hk, rfl, HX, T, BR, BA⟩ := hrel
    by_cases hlt : k < s.size
    · obtain ⟨b1, b2, b3⟩ := HX.out.2.2.bd (by omega)
      by_cases c1 : s[k] = 76
      · have hix : ∀ w, (Instr.index 9 (.string s) (.int .i64 (k : Int))).run Tryd.prog w = .ok (.int .u8 76) w := idx_lit s k 76 hlt c1
        obtain ⟨p, hp⟩ : ∃ p, x ++ y = p := ⟨_, rfl⟩
        have hq : (p.toList == y.toList) = false := neq_list (by rw [← hp, ByteArray.size_append]; have := HX.out.2.2.1; omega)
        have HK : Hid (s[k] = 76 ∨ s[k] = 82) := Lib.hid (.inl c1)
        have HST : Hid (stepW (x, y) s[k] = (x, p)) := Lib.hid (by rw [c1]; simp [stepW, hp])
        have HSZ : Hid (Szs x p (k + 1)) := Lib.hid (hp ▸ HX.out.2.2.L)
        have HA := Lib.hid (fun w => after_L x y p b1 b2 b3 hp w)
        clear b1 b2 b3
        have hzr : w.heap.size ≤ wr.heap.size := T.size
        have ne1 : ¬ (wr.heap.size = w.heap.size) := by have := BR.1; omega
        have ne2 : ¬ (wr.heap.size = w.heap.size + 1) := by have := BA.1; omega
        obtain ⟨_, _, _, _, _⟩ := BR.two
        obtain ⟨_, _, _, _, _⟩ := BA.two
        go_upto_region 7 with fail
        go_cut [6] (fun s6 wx => ∃ g, s6 = .pointer (some ⟨g, 0, none⟩) ∧ ¬ g = w.heap.size ∧ ¬ g = w.heap.size + 1 ∧ Below w.heap.size w wx ∧ Box wx w.heap.size [.string ByteArray.empty, .string ByteArray.empty] ∧ Box wx (w.heap.size + 1) [.string x, .string y] ∧ Box wx g [.string x, .string p])
        case first =>
          go_region_held3 (fun w' => w'.cell? ⟨w.heap.size + 1, 0, none⟩ = some (.string x) ∧ w'.cell? ⟨w.heap.size + 1, 1, none⟩ = some (.string y)) (go_keep)
            (first | (go_at_call 77; refine (HA.out _).mono ?_; rintro e w1 ⟨rfl, hb1⟩; have T := (by first | exact own_trans T hb1 | exact own_trans (own_drew T) hb1 | exact own_trans (own_drew (own_alloc T _)) hb1 | exact own_trans (own_alloc (own_drew T) _) hb1 : Below w.heap.size w w1); have BA := Box.below (by first | exact BA | exact Box.drew BA | exact Box.drew (Box.alloc BA _) | exact Box.alloc (Box.drew BA) _) hb1; have BR := Box.below (by first | exact BR | exact Box.drew BR | exact Box.drew (Box.alloc BR _) | exact Box.alloc (Box.drew BR) _) hb1; obtain ⟨_, _, _, _, _⟩ := BA.two; obtain ⟨_, _, _, _, _⟩ := BR.two; have ne3 : ¬ (w1.heap.size = w.heap.size) := (by have := BR.1; omega); have ne4 : ¬ (w1.heap.size = w.heap.size + 1) := (by have := BA.1; omega); try (have BZ : Box w1 wr.heap.size [.string ByteArray.empty, .string ByteArray.empty] := Box.below (by first | exact Box.new _ _ _ | exact Box.drew (Box.new _ _ _) | exact Box.newAt rfl _ _) hb1; obtain ⟨_, _, _, _, _⟩ := BZ.two)))
          all_goals
            go_wp2_with fail
            go_meet
            first
              | exact ⟨_, rfl, ne3, ne4, own_alloc T _, BR.alloc _, BA.alloc _, Box.new _ _ _⟩
              | exact ⟨_, rfl, ne1, ne2, (T.setCell hzr _).setCell hzr _, (BR.far (Ne.symm ne1) _).far (Ne.symm ne1) _, (BA.far (Ne.symm ne2) _).far (Ne.symm ne2) _, BZ.put2 _ _⟩
        case rest =>
          obtain ⟨g, rfl, hg1, hg2, T, BR, BA, BG⟩ := hcut
          obtain ⟨_, _, _, _, _⟩ := BR.two
          obtain ⟨_, _, _, _, _⟩ := BA.two
          obtain ⟨_, _, _, _, _⟩ := BG.two
          have HN : Hid (pathW (s.data.toList.take (k + 1)) = (x, p) ∧ stepsOk (s.data.toList.take (k + 1)) = true ∧ Szs x p (k + 1)) := Lib.hid (by
            obtain ⟨q1, q2, q3⟩ := HX.out
            refine ⟨?_, stepsOk_take s k hlt q2 HK.out, HSZ.out⟩
            rw [pathW_step s k hlt, q1]
            exact HST.out)
          go_wp2
          go_roundw
          case rel => exact ⟨k + 1, x, p, by omega, by go_num, HN, by repeat (first | with_reducible exact own_refl _ | with_reducible assumption | with_reducible apply own_alloc | with_reducible apply own_drewN | with_reducible apply own_drew | ((with_reducible refine own_setCell ?_ ?_ _); rotate_left; focus (first | (simp; done) | (simp; omega))) | (with_reducible (refine own_trans ?_ (by assumption)))), (BR.far (by simp) _).far (by simp) _, BA.put2 _ _⟩
          case measure => simp [intOf]; omega
      by_cases c2 : s[k] = 82
      · have hix : ∀ w, (Instr.index 9 (.string s) (.int .i64 (k : Int))).run Tryd.prog w = .ok (.int .u8 82) w := idx_lit s k 82 hlt c2
        obtain ⟨p, hp⟩ : ∃ p, x ++ y = p := ⟨_, rfl⟩
        have hq : (p.toList == x.toList) = false := neq_list (by rw [← hp, ByteArray.size_append]; have := HX.out.2.2.2.1; omega)
        have HK : Hid (s[k] = 76 ∨ s[k] = 82) := Lib.hid (.inr c2)
        have HST : Hid (stepW (x, y) s[k] = (p, y)) := Lib.hid (by rw [c2]; simp [stepW, hp])
        have HSZ : Hid (Szs p y (k + 1)) := Lib.hid (hp ▸ HX.out.2.2.R)
        have HA := Lib.hid (fun w => after_R x y p b1 b2 b3 hp w)
        clear b1 b2 b3
        have hzr : w.heap.size ≤ wr.heap.size := T.size
        have ne1 : ¬ (wr.heap.size = w.heap.size) := by have := BR.1; omega
        have ne2 : ¬ (wr.heap.size = w.heap.size + 1) := by have := BA.1; omega
        obtain ⟨_, _, _, _, _⟩ := BR.two
        obtain ⟨_, _, _, _, _⟩ := BA.two
        go_upto_region 7 with fail
        go_cut [6] (fun s6 wx => ∃ g, s6 = .pointer (some ⟨g, 0, none⟩) ∧ ¬ g = w.heap.size ∧ ¬ g = w.heap.size + 1 ∧ Below w.heap.size w wx ∧ Box wx w.heap.size [.string ByteArray.empty, .string ByteArray.empty] ∧ Box wx (w.heap.size + 1) [.string x, .string y] ∧ Box wx g [.string p, .string y])
        case first =>
          go_region_held3 (fun w' => w'.cell? ⟨w.heap.size + 1, 0, none⟩ = some (.string x) ∧ w'.cell? ⟨w.heap.size + 1, 1, none⟩ = some (.string y)) (go_keep)
            (first | (go_at_call 77; refine (HA.out _).mono ?_; rintro e w1 ⟨rfl, hb1⟩; have T := (by first | exact own_trans T hb1 | exact own_trans (own_drew T) hb1 | exact own_trans (own_drew (own_alloc T _)) hb1 | exact own_trans (own_alloc (own_drew T) _) hb1 : Below w.heap.size w w1); have BA := Box.below (by first | exact BA | exact Box.drew BA | exact Box.drew (Box.alloc BA _) | exact Box.alloc (Box.drew BA) _) hb1; have BR := Box.below (by first | exact BR | exact Box.drew BR | exact Box.drew (Box.alloc BR _) | exact Box.alloc (Box.drew BR) _) hb1; obtain ⟨_, _, _, _, _⟩ := BA.two; obtain ⟨_, _, _, _, _⟩ := BR.two; have ne3 : ¬ (w1.heap.size = w.heap.size) := (by have := BR.1; omega); have ne4 : ¬ (w1.heap.size = w.heap.size + 1) := (by have := BA.1; omega); try (have BZ : Box w1 wr.heap.size [.string ByteArray.empty, .string ByteArray.empty] := Box.below (by first | exact Box.new _ _ _ | exact Box.drew (Box.new _ _ _) | exact Box.newAt rfl _ _) hb1; obtain ⟨_, _, _, _, _⟩ := BZ.two)))
          all_goals
            go_wp2_with fail
            go_meet
            first
              | exact ⟨_, rfl, ne3, ne4, own_alloc T _, BR.alloc _, BA.alloc _, Box.new _ _ _⟩
              | exact ⟨_, rfl, ne1, ne2, (T.setCell hzr _).setCell hzr _, (BR.far (Ne.symm ne1) _).far (Ne.symm ne1) _, (BA.far (Ne.symm ne2) _).far (Ne.symm ne2) _, BZ.put2 _ _⟩
        case rest =>
          obtain ⟨g, rfl, hg1, hg2, T, BR, BA, BG⟩ := hcut
          obtain ⟨_, _, _, _, _⟩ := BR.two
          obtain ⟨_, _, _, _, _⟩ := BA.two
          obtain ⟨_, _, _, _, _⟩ := BG.two
          have HN : Hid (pathW (s.data.toList.take (k + 1)) = (p, y) ∧ stepsOk (s.data.toList.take (k + 1)) = true ∧ Szs p y (k + 1)) := Lib.hid (by
            obtain ⟨q1, q2, q3⟩ := HX.out
            refine ⟨?_, stepsOk_take s k hlt q2 HK.out, HSZ.out⟩
            rw [pathW_step s k hlt, q1]
            exact HST.out)
          go_wp2
          go_roundw
          case rel => exact ⟨k + 1, p, y, by omega, by go_num, HN, by repeat (first | with_reducible exact own_refl _ | with_reducible assumption | with_reducible apply own_alloc | with_reducible apply own_drewN | with_reducible apply own_drew | ((with_reducible refine own_setCell ?_ ?_ _); rotate_left; focus (first | (simp; done) | (simp; omega))) | (with_reducible (refine own_trans ?_ (by assumption)))), (BR.far (by simp) _).far (by simp) _, BA.put2 _ _⟩
          case measure => simp [intOf]; omega
      · exfalso
        have := stepsOk_stop s k hlt c1 c2
        rw [HO.out] at this
        cases this
    · have HE : Hid (x = u ∧ y = v) := Lib.hid (by
        have e := HX.out.1
        rw [take_all s k (by omega), HW.out] at e
        exact ⟨congrArg Prod.fst e.symm, congrArg Prod.snd e.symm⟩)
      obtain ⟨_, _, _, _, _⟩ := BR.two
      obtain ⟨_, _, _, _, _⟩ := BA.two
      go_wp2
      obtain ⟨_, d1, d2⟩ := BR.put2S (.string x) (.string y)
      refine bodyPost_ret (v := .tuple #[.agg #[.string x, .string y], (.int .i64 0)]) (by simp [results, Tryd.results57, go_sem, d1, d2]) rfl ⟨?_, by repeat (first | with_reducible exact own_refl _ | with_reducible assumption | with_reducible apply own_alloc | with_reducible apply own_drewN | with_reducible apply own_drew | ((with_reducible refine own_setCell ?_ ?_ _); rotate_left; focus (first | (simp; done) | (simp; omega))) | (with_reducible (refine own_trans ?_ (by assumption))))⟩
      rw [HE.out.1, HE.out.2]
set_option maxHeartbeats 8000000 in
theorem implPair_no (s : ByteArray) (h : s.size ≤ 12) (ho : stepsOk s.data.toList = false) (w : World) :
    Calls Tryd.prog 57 #[.string s] w fun e w' => e = .returned (.tuple #[.agg #[.string ByteArray.empty, .string ByteArray.empty], (.int .i64 2)]) ∧ Below w.heap.size w w' := by
  have HO := Lib.hid ho
  have h1 : ¬ (12 : Int) < (s.size : Int) := by omega
  clear ho
  go_enter Tryd.func57, Tryd.ntmps57
  go_wp2
  go_loopw [14] (fun i wr => ∃ (k : Nat) (x y : ByteArray), k ≤ s.size ∧ i = (.int .i64 k) ∧ Hid (pathW (s.data.toList.take k) = (x, y) ∧ stepsOk (s.data.toList.take k) = true ∧ Szs x y k) ∧ Below w.heap.size w wr ∧ Box wr w.heap.size [.string ByteArray.empty, .string ByteArray.empty] ∧ Box wr (w.heap.size + 1) [.string x, .string y]) (fun i _ => s.size - (intOf i).toNat)
  case atStart => exact ⟨0, _, _, Nat.zero_le _, rfl, Lib.hid ⟨rfl, rfl, by unfold Szs; decide⟩, by repeat (first | with_reducible exact own_refl _ | with_reducible assumption | with_reducible apply own_alloc | with_reducible apply own_drewN | with_reducible apply own_drew | ((with_reducible refine own_setCell ?_ ?_ _); rotate_left; focus (first | (simp; done) | (simp; omega))) | (with_reducible (refine own_trans ?_ (by assumption)))), Box.alloc (Box.new _ _ _) _, Box.newAt (by simp) _ _⟩
  case round =>
    obtain ⟨k, x, y, hk, rfl, HX, T, BR, BA⟩ := hrel
    by_cases hlt : k < s.size
    · obtain ⟨b1, b2, b3⟩ := HX.out.2.2.bd (by omega)
      by_cases c1 : s[k] = 76
      · have hix : ∀ w, (Instr.index 9 (.string s) (.int .i64 (k : Int))).run Tryd.prog w = .ok (.int .u8 76) w := idx_lit s k 76 hlt c1
        obtain ⟨p, hp⟩ : ∃ p, x ++ y = p := ⟨_, rfl⟩
        have hq : (p.toList == y.toList) = false := neq_list (by rw [← hp, ByteArray.size_append]; have := HX.out.2.2.1; omega)
        have HK : Hid (s[k] = 76 ∨ s[k] = 82) := Lib.hid (.inl c1)
        have HST : Hid (stepW (x, y) s[k] = (x, p)) := Lib.hid (by rw [c1]; simp [stepW, hp])
        have HSZ : Hid (Szs x p (k + 1)) := Lib.hid (hp ▸ HX.out.2.2.L)
        have HA := Lib.hid (fun w => after_L x y p b1 b2 b3 hp w)
        clear b1 b2 b3
        have hzr : w.heap.size ≤ wr.heap.size := T.size
        have ne1 : ¬ (wr.heap.size = w.heap.size) := by have := BR.1; omega
        have ne2 : ¬ (wr.heap.size = w.heap.size + 1) := by have := BA.1; omega
        obtain ⟨_, _, _, _, _⟩ := BR.two
        obtain ⟨_, _, _, _, _⟩ := BA.two
        go_upto_region 7 with fail
        go_cut [6] (fun s6 wx => ∃ g, s6 = .pointer (some ⟨g, 0, none⟩) ∧ ¬ g = w.heap.size ∧ ¬ g = w.heap.size + 1 ∧ Below w.heap.size w wx ∧ Box wx w.heap.size [.string ByteArray.empty, .string ByteArray.empty] ∧ Box wx (w.heap.size + 1) [.string x, .string y] ∧ Box wx g [.string x, .string p])
        case first =>
          go_region_held3 (fun w' => w'.cell? ⟨w.heap.size + 1, 0, none⟩ = some (.string x) ∧ w'.cell? ⟨w.heap.size + 1, 1, none⟩ = some (.string y)) (go_keep)
            (first | (go_at_call 77; refine (HA.out _).mono ?_; rintro e w1 ⟨rfl, hb1⟩; have T := (by first | exact own_trans T hb1 | exact own_trans (own_drew T) hb1 | exact own_trans (own_drew (own_alloc T _)) hb1 | exact own_trans (own_alloc (own_drew T) _) hb1 : Below w.heap.size w w1); have BA := Box.below (by first | exact BA | exact Box.drew BA | exact Box.drew (Box.alloc BA _) | exact Box.alloc (Box.drew BA) _) hb1; have BR := Box.below (by first | exact BR | exact Box.drew BR | exact Box.drew (Box.alloc BR _) | exact Box.alloc (Box.drew BR) _) hb1; obtain ⟨_, _, _, _, _⟩ := BA.two; obtain ⟨_, _, _, _, _⟩ := BR.two; have ne3 : ¬ (w1.heap.size = w.heap.size) := (by have := BR.1; omega); have ne4 : ¬ (w1.heap.size = w.heap.size + 1) := (by have := BA.1; omega); try (have BZ : Box w1 wr.heap.size [.string ByteArray.empty, .string ByteArray.empty] := Box.below (by first | exact Box.new _ _ _ | exact Box.drew (Box.new _ _ _) | exact Box.newAt rfl _ _) hb1; obtain ⟨_, _, _, _, _⟩ := BZ.two)))
          all_goals
            go_wp2_with fail
            go_meet
            first
              | exact ⟨_, rfl, ne3, ne4, own_alloc T _, BR.alloc _, BA.alloc _, Box.new _ _ _⟩
              | exact ⟨_, rfl, ne1, ne2, (T.setCell hzr _).setCell hzr _, (BR.far (Ne.symm ne1) _).far (Ne.symm ne1) _, (BA.far (Ne.symm ne2) _).far (Ne.symm ne2) _, BZ.put2 _ _⟩
        case rest =>
          obtain ⟨g, rfl, hg1, hg2, T, BR, BA, BG⟩ := hcut
          obtain ⟨_, _, _, _, _⟩ := BR.two
          obtain ⟨_, _, _, _, _⟩ := BA.two
          obtain ⟨_, _, _, _, _⟩ := BG.two
          have HN : Hid (pathW (s.data.toList.take (k + 1)) = (x, p) ∧ stepsOk (s.data.toList.take (k + 1)) = true ∧ Szs x p (k + 1)) := Lib.hid (by
            obtain ⟨q1, q2, q3⟩ := HX.out
            refine ⟨?_, stepsOk_take s k hlt q2 HK.out, HSZ.out⟩
            rw [pathW_step s k hlt, q1]
            exact HST.out)
          go_wp2
          go_roundw
          case rel => exact ⟨k + 1, x, p, by omega, by go_num, HN, by repeat (first | with_reducible exact own_refl _ | with_reducible assumption | with_reducible apply own_alloc | with_reducible apply own_drewN | with_reducible apply own_drew | ((with_reducible refine own_setCell ?_ ?_ _); rotate_left; focus (first | (simp; done) | (simp; omega))) | (with_reducible (refine own_trans ?_ (by assumption)))), (BR.far (by simp) _).far (by simp) _, BA.put2 _ _⟩
          case measure => simp [intOf]; omega
      by_cases c2 : s[k] = 82
      · have hix : ∀ w, (Instr.index 9 (.string s) (.int .i64 (k : Int))).run Tryd.prog w = .ok (.int .u8 82) w := idx_lit s k 82 hlt c2
        obtain ⟨p, hp⟩ : ∃ p, x ++ y = p := ⟨_, rfl⟩
        have hq : (p.toList == x.toList) = false := neq_list (by rw [← hp, ByteArray.size_append]; have := HX.out.2.2.2.1; omega)
        have HK : Hid (s[k] = 76 ∨ s[k] = 82) := Lib.hid (.inr c2)
        have HST : Hid (stepW (x, y) s[k] = (p, y)) := Lib.hid (by rw [c2]; simp [stepW, hp])
        have HSZ : Hid (Szs p y (k + 1)) := Lib.hid (hp ▸ HX.out.2.2.R)
        have HA := Lib.hid (fun w => after_R x y p b1 b2 b3 hp w)
        clear b1 b2 b3
        have hzr : w.heap.size ≤ wr.heap.size := T.size
        have ne1 : ¬ (wr.heap.size = w.heap.size) := by have := BR.1; omega
        have ne2 : ¬ (wr.heap.size = w.heap.size + 1) := by have := BA.1; omega
        obtain ⟨_, _, _, _, _⟩ := BR.two
        obtain ⟨_, _, _, _, _⟩ := BA.two
        go_upto_region 7 with fail
        go_cut [6] (fun s6 wx => ∃ g, s6 = .pointer (some ⟨g, 0, none⟩) ∧ ¬ g = w.heap.size ∧ ¬ g = w.heap.size + 1 ∧ Below w.heap.size w wx ∧ Box wx w.heap.size [.string ByteArray.empty, .string ByteArray.empty] ∧ Box wx (w.heap.size + 1) [.string x, .string y] ∧ Box wx g [.string p, .string y])
        case first =>
          go_region_held3 (fun w' => w'.cell? ⟨w.heap.size + 1, 0, none⟩ = some (.string x) ∧ w'.cell? ⟨w.heap.size + 1, 1, none⟩ = some (.string y)) (go_keep)
            (first | (go_at_call 77; refine (HA.out _).mono ?_; rintro e w1 ⟨rfl, hb1⟩; have T := (by first | exact own_trans T hb1 | exact own_trans (own_drew T) hb1 | exact own_trans (own_drew (own_alloc T _)) hb1 | exact own_trans (own_alloc (own_drew T) _) hb1 : Below w.heap.size w w1); have BA := Box.below (by first | exact BA | exact Box.drew BA | exact Box.drew (Box.alloc BA _) | exact Box.alloc (Box.drew BA) _) hb1; have BR := Box.below (by first | exact BR | exact Box.drew BR | exact Box.drew (Box.alloc BR _) | exact Box.alloc (Box.drew BR) _) hb1; obtain ⟨_, _, _, _, _⟩ := BA.two; obtain ⟨_, _, _, _, _⟩ := BR.two; have ne3 : ¬ (w1.heap.size = w.heap.size) := (by have := BR.1; omega); have ne4 : ¬ (w1.heap.size = w.heap.size + 1) := (by have := BA.1; omega); try (have BZ : Box w1 wr.heap.size [.string ByteArray.empty, .string ByteArray.empty] := Box.below (by first | exact Box.new _ _ _ | exact Box.drew (Box.new _ _ _) | exact Box.newAt rfl _ _) hb1; obtain ⟨_, _, _, _, _⟩ := BZ.two)))
          all_goals
            go_wp2_with fail
            go_meet
            first
              | exact ⟨_, rfl, ne3, ne4, own_alloc T _, BR.alloc _, BA.alloc _, Box.new _ _ _⟩
              | exact ⟨_, rfl, ne1, ne2, (T.setCell hzr _).setCell hzr _, (BR.far (Ne.symm ne1) _).far (Ne.symm ne1) _, (BA.far (Ne.symm ne2) _).far (Ne.symm ne2) _, BZ.put2 _ _⟩
        case rest =>
          obtain ⟨g, rfl, hg1, hg2, T, BR, BA, BG⟩ := hcut
          obtain ⟨_, _, _, _, _⟩ := BR.two
          obtain ⟨_, _, _, _, _⟩ := BA.two
          obtain ⟨_, _, _, _, _⟩ := BG.two
          have HN : Hid (pathW (s.data.toList.take (k + 1)) = (p, y) ∧ stepsOk (s.data.toList.take (k + 1)) = true ∧ Szs p y (k + 1)) := Lib.hid (by
            obtain ⟨q1, q2, q3⟩ := HX.out
            refine ⟨?_, stepsOk_take s k hlt q2 HK.out, HSZ.out⟩
            rw [pathW_step s k hlt, q1]
            exact HST.out)
          go_wp2
          go_roundw
          case rel => exact ⟨k + 1, p, y, by omega, by go_num, HN, by repeat (first | with_reducible exact own_refl _ | with_reducible assumption | with_reducible apply own_alloc | with_reducible apply own_drewN | with_reducible apply own_drew | ((with_reducible refine own_setCell ?_ ?_ _); rotate_left; focus (first | (simp; done) | (simp; omega))) | (with_reducible (refine own_trans ?_ (by assumption)))), (BR.far (by simp) _).far (by simp) _, BA.put2 _ _⟩
          case measure => simp [intOf]; omega
      · obtain ⟨z, hix, HZ⟩ := idx_any s k hlt
        have hz1 : (z == 76) = false := HZ.out 76 c1
        have hz2 : (z == 82) = false := HZ.out 82 c2
        have HA := Lib.hid (fun w => after_no x y z hz1 hz2 w)
        clear b1 b2 b3
        have hzr : w.heap.size ≤ wr.heap.size := T.size
        have ne1 : ¬ (wr.heap.size = w.heap.size) := by have := BR.1; omega
        have ne2 : ¬ (wr.heap.size = w.heap.size + 1) := by have := BA.1; omega
        obtain ⟨_, _, _, _, _⟩ := BR.two
        obtain ⟨_, _, _, _, _⟩ := BA.two
        go_upto_region 7 with fail
        go_cut [6] (fun s6 wx => ∃ g, s6 = .pointer (some ⟨g, 0, none⟩) ∧ ¬ g = w.heap.size ∧ ¬ g = w.heap.size + 1 ∧ Below w.heap.size w wx ∧ Box wx w.heap.size [.string ByteArray.empty, .string ByteArray.empty] ∧ Box wx (w.heap.size + 1) [.string x, .string y] ∧ Box wx g [.string x, .string y])
        case first =>
          go_region_held3 (fun w' => w'.cell? ⟨w.heap.size + 1, 0, none⟩ = some (.string x) ∧ w'.cell? ⟨w.heap.size + 1, 1, none⟩ = some (.string y)) (go_keep)
            (first | (go_at_call 77; refine (HA.out _).mono ?_; rintro e w1 ⟨rfl, hb1⟩; have T := (by first | exact own_trans T hb1 | exact own_trans (own_drew T) hb1 | exact own_trans (own_drew (own_alloc T _)) hb1 | exact own_trans (own_alloc (own_drew T) _) hb1 : Below w.heap.size w w1); have BA := Box.below (by first | exact BA | exact Box.drew BA | exact Box.drew (Box.alloc BA _) | exact Box.alloc (Box.drew BA) _) hb1; have BR := Box.below (by first | exact BR | exact Box.drew BR | exact Box.drew (Box.alloc BR _) | exact Box.alloc (Box.drew BR) _) hb1; obtain ⟨_, _, _, _, _⟩ := BA.two; obtain ⟨_, _, _, _, _⟩ := BR.two; have ne3 : ¬ (w1.heap.size = w.heap.size) := (by have := BR.1; omega); have ne4 : ¬ (w1.heap.size = w.heap.size + 1) := (by have := BA.1; omega); try (have BZ : Box w1 wr.heap.size [.string ByteArray.empty, .string ByteArray.empty] := Box.below (by first | exact Box.new _ _ _ | exact Box.drew (Box.new _ _ _) | exact Box.newAt rfl _ _) hb1; obtain ⟨_, _, _, _, _⟩ := BZ.two)))
          all_goals
            go_wp2_with fail
            go_meet
            first
              | exact ⟨_, rfl, ne3, ne4, own_alloc T _, BR.alloc _, BA.alloc _, Box.new _ _ _⟩
              | exact ⟨_, rfl, ne1, ne2, (T.setCell hzr _).setCell hzr _, (BR.far (Ne.symm ne1) _).far (Ne.symm ne1) _, (BA.far (Ne.symm ne2) _).far (Ne.symm ne2) _, BZ.put2 _ _⟩
        case rest =>
          obtain ⟨g, rfl, hg1, hg2, T, BR, BA, BG⟩ := hcut
          obtain ⟨_, _, _, _, _⟩ := BR.two
          obtain ⟨_, _, _, _, _⟩ := BA.two
          obtain ⟨_, _, _, _, _⟩ := BG.two
          go_wp2
          obtain ⟨_, d1, d2⟩ := BR.put2S (.string ⟨#[]⟩) (.string ⟨#[]⟩)
          exact bodyPost_ret (v := .tuple #[.agg #[.string ByteArray.empty, .string ByteArray.empty], (.int .i64 2)]) (by simp [results, Tryd.results57, go_sem, d1, d2]; rfl) rfl ⟨rfl, by repeat (first | with_reducible exact own_refl _ | with_reducible assumption | with_reducible apply own_alloc | with_reducible apply own_drewN | with_reducible apply own_drew | ((with_reducible refine own_setCell ?_ ?_ _); rotate_left; focus (first | (simp; done) | (simp; omega))) | (with_reducible (refine own_trans ?_ (by assumption))))⟩
    · exfalso
      have e := HX.out.2.1
      rw [take_all s k (by omega), HO.out] at e
      cases e
end Go.Proofs.YtkeadknbdihkmaaDoor
