/- FirstConjugator: both sides. -/
import Derived.Test.YtmlbbhhjjepmkaaFcj
namespace Go.Proofs.Ytmlbbhhjjepmkaa
open Go.ChangeShapes Go.WideShapes Go.ChangeAt Go.RowKit

/-- the matrix at k of a flat list -/
def gAt (xs : List Int) (k : Nat) : Mat := ⟨xs.getD (k * 4) 0, xs.getD (k * 4 + 1) 0, xs.getD (k * 4 + 2) 0, xs.getD (k * 4 + 3) 0⟩
/-- What the search gives. -/
def FR (m n : Mat) (xs : List Int) (len : Nat) (r : Mat) (kd : Int) : Prop :=
  (∃ k, k < len ∧ (∀ j, j < k → ¬ ldP m n (gAt xs j)) ∧ ldP m n (gAt xs k) ∧ r = gAt xs k ∧ kd = 0) ∨ ((∀ j, j < len → ¬ ldP m n (gAt xs j)) ∧ r = Mat.zero ∧ kd = 4)
open Classical in
theorem FR_ex (m n : Mat) (xs : List Int) (len : Nat) : ∃ r kd, FR m n xs len r kd := by
  have h : ∀ len, (∃ k, k < len ∧ (∀ j, j < k → ¬ ldP m n (gAt xs j)) ∧ ldP m n (gAt xs k)) ∨ (∀ j, j < len → ¬ ldP m n (gAt xs j)) := by
    intro len
    induction len with
    | zero => exact .inr fun j hj => by omega
    | succ len ih =>
      rcases ih with ⟨k, h1, h2, h3⟩ | h
      · exact .inl ⟨k, by omega, h2, h3⟩
      · by_cases hl : ldP m n (gAt xs len)
        · exact .inl ⟨len, by omega, h, hl⟩
        · refine .inr fun j hj => ?_
          rcases (show j < len ∨ j = len by omega) with h1 | rfl
          · exact h j h1
          · exact hl
  rcases h len with ⟨k, h1, h2, h3⟩ | h
  · exact ⟨_, _, .inl ⟨k, h1, h2, h3, rfl, rfl⟩⟩
  · exact ⟨_, _, .inr ⟨h, rfl, rfl⟩⟩
theorem FR.hit {m n : Mat} {xs : List Int} {len : Nat} {r : Mat} {kd : Int} (h : FR m n xs len r kd) {k : Nat} (hk : k < len) (h1 : ∀ j, j < k → ¬ ldP m n (gAt xs j)) (h2 : ldP m n (gAt xs k)) : r = gAt xs k ∧ kd = 0 := by
  rcases h with ⟨k', a, b, c, d, e⟩ | ⟨a, _⟩
  · have : k = k' := by
      rcases Nat.lt_trichotomy k k' with h | h | h
      · exact absurd h2 (b k h)
      · exact h
      · exact absurd c (h1 k' h)
    subst this
    exact ⟨d, e⟩
  · exact absurd h2 (a k hk)
theorem FR.miss {m n : Mat} {xs : List Int} {len : Nat} {r : Mat} {kd : Int} (h : FR m n xs len r kd) (h1 : ∀ j, j < len → ¬ ldP m n (gAt xs j)) : r = Mat.zero ∧ kd = 4 := by
  rcases h with ⟨k', a, b, c, d, e⟩ | ⟨_, a, b⟩
  · exact absurd c (h1 k' a)
  · exact ⟨a, b⟩
theorem noMore {m n : Mat} {xs : List Int} {k : Nat} (h1 : ∀ j, j < k → ¬ ldP m n (gAt xs j)) (h2 : ¬ ldP m n (gAt xs k)) : ∀ j, j < k + 1 → ¬ ldP m n (gAt xs j) := fun j hj => by
  rcases (show j < k ∨ j = k by omega) with h | rfl
  · exact h1 j h
  · exact h2
/-- the numbers of the list are small -/
theorem one4_small {a b c d x : Int} (ha : -3 ≤ a ∧ a ≤ 3) (hb : -3 ≤ b ∧ b ≤ 3) (hc : -3 ≤ c ∧ c ≤ 3) (hd : -3 ≤ d ∧ d ≤ 3) (h : x ∈ one4 a b c d) : -3 ≤ x ∧ x ≤ 3 := by
  unfold one4 at h
  split at h
  · simp only [List.mem_cons, List.not_mem_nil, or_false] at h
    omega
  · simp at h
theorem dl_small {lo a b c : Int} (hl : -3 ≤ lo) (ha : -3 ≤ a ∧ a ≤ 3) (hb : -3 ≤ b ∧ b ≤ 3) (hc : -3 ≤ c ∧ c ≤ 3) : ∀ (k : Nat), lo + k ≤ 4 → ∀ x ∈ dl lo a b c k, -3 ≤ x ∧ x ≤ 3
  | 0, _, x, h => by simp [dl] at h
  | k + 1, hk, x, h => by
    rw [dl] at h
    rcases List.mem_append.1 h with h | h
    · exact dl_small hl ha hb hc k (by omega) x h
    · exact one4_small ha hb hc ⟨by omega, by omega⟩ h
theorem cl_small {lo a b : Int} {N : Nat} (hl : -3 ≤ lo) (hN : lo + N ≤ 4) (ha : -3 ≤ a ∧ a ≤ 3) (hb : -3 ≤ b ∧ b ≤ 3) : ∀ (k : Nat), lo + k ≤ 4 → ∀ x ∈ cl lo N a b k, -3 ≤ x ∧ x ≤ 3
  | 0, _, x, h => by simp [cl] at h
  | k + 1, hk, x, h => by
    rw [cl] at h
    rcases List.mem_append.1 h with h | h
    · exact cl_small hl hN ha hb k (by omega) x h
    · exact dl_small hl ha hb ⟨by omega, by omega⟩ N hN x h
theorem bl_small {lo a : Int} {N : Nat} (hl : -3 ≤ lo) (hN : lo + N ≤ 4) (ha : -3 ≤ a ∧ a ≤ 3) : ∀ (k : Nat), lo + k ≤ 4 → ∀ x ∈ bl lo N a k, -3 ≤ x ∧ x ≤ 3
  | 0, _, x, h => by simp [bl] at h
  | k + 1, hk, x, h => by
    rw [bl] at h
    rcases List.mem_append.1 h with h | h
    · exact bl_small hl hN ha k (by omega) x h
    · exact cl_small hl hN ha ⟨by omega, by omega⟩ N hN x h
theorem al_small {lo : Int} {N : Nat} (hl : -3 ≤ lo) (hN : lo + N ≤ 4) : ∀ (k : Nat), lo + k ≤ 4 → ∀ x ∈ al lo N k, -3 ≤ x ∧ x ≤ 3
  | 0, _, x, h => by simp [al] at h
  | k + 1, hk, x, h => by
    rw [al] at h
    rcases List.mem_append.1 h with h | h
    · exact al_small hl hN k (by omega) x h
    · exact bl_small hl hN ⟨by omega, by omega⟩ N hN x h
theorem getD_ent {xs : List Int} (h : ∀ x ∈ xs, -3 ≤ x ∧ x ≤ 3) (i : Nat) : Ent (xs.getD i 0) := by
  rw [List.getD]
  rcases hi : xs[i]? with _ | y
  · simp [Ent]
  · have := h y (List.mem_of_getElem? hi)
    simp only [Option.getD_some, Ent]; omega
theorem gAt_ent {xs : List Int} (h : ∀ x ∈ xs, -3 ≤ x ∧ x ≤ 3) (k : Nat) : entM (gAt xs k) := ⟨getD_ent h _, getD_ent h _, getD_ent h _, getD_ent h _⟩
theorem entM_of {a b c d : Int} (h : isM a b c d = true) : entM ⟨a, b, c, d⟩ := by
  obtain ⟨h1, h2, h3, h4, _⟩ := isM_ent h
  exact ⟨h1, h2, h3, h4⟩
theorem inR03 (r : Bool) (n : Int) (h : inR n 0 3 = r) (w : World) : Calls Try.prog 11 #[(.int .i64 n), (.int .i64 0), (.int .i64 3)] w fun e w' => e = .returned (.bool r) ∧ w = w' := l01In_is r n 0 3 h w
theorem l01Is_M (r : Bool) (m : Mat) (h : isM m.a m.b m.c m.d = r) (w : World) :
    Calls Try.prog 14 #[(.agg #[.int .i64 m.a, .int .i64 m.b, .int .i64 m.c, .int .i64 m.d])] w fun e w' => e = .returned (.bool r) ∧ Below w.heap.size w w' := l01Is_is r m.a m.b m.c m.d w h
theorem implIs_M (r : Bool) (m : Mat) (h : isM m.a m.b m.c m.d = r) (w : World) :
    Calls Try.prog 17 #[(.agg #[.int .i64 m.a, .int .i64 m.b, .int .i64 m.c, .int .i64 m.d])] w fun e w' => e = .returned (.bool r) ∧ Below w.heap.size w w' := implIs_is r m.a m.b m.c m.d w h

set_option maxRecDepth 100000 in
set_option maxHeartbeats 4000000 in
theorem specFc_yes (m n : Mat) (hm : isM m.a m.b m.c m.d = true) (hn : isM n.a n.b n.c n.d = true) (k : Int) (h1 : 0 ≤ k) (h2 : k ≤ 3) (N : Nat) (hN : (N : Int) = 2 * k + 1) (len : Nat) (hlen : (al (-k) N N).length = 4 * len) (r : Mat) (kd : Int) (hF : FR m n (al (-k) N N) len r kd) (w : World) :
    Calls Try.prog 7 #[(.agg #[.int .i64 m.a, .int .i64 m.b, .int .i64 m.c, .int .i64 m.d]), (.agg #[.int .i64 n.a, .int .i64 n.b, .int .i64 n.c, .int .i64 n.d]), (.int .i64 k)] w fun e w' => e = .returned (.tuple #[(.agg #[.int .i64 r.a, .int .i64 r.b, .int .i64 r.c, .int .i64 r.d]), (.int .i64 kd)]) ∧ Below w.heap.size w w' := by
  have Hm := Lib.hid hm
  have Hn := Lib.hid hn
  have HR := Lib.hid (show inR k 0 3 = true from decide_eq_true ⟨h1, h2⟩)
  have HE := Lib.hid (fun j => gAt_ent (al_small (lo := -k) (N := N) (by omega) (by omega) N (by omega)) j)
  have HEM := Lib.hid (entM_of hm)
  have HEN := Lib.hid (entM_of hn)
  have HMW := Lib.hid (fun w => specMw_yes k h1 h2 N hN w)
  obtain ⟨xs, hxs⟩ : ∃ xs, al (-k) N N = xs := ⟨_, rfl⟩
  rw [hxs] at HE HMW hlen hF
  have HL := Lib.hid hlen
  have HF := Lib.hid hF
  clear hm hn h1 h2 hN hxs hlen hF
  go_enter Try.func7, Try.ntmps7
  go_wp2_with fail
  refine (l01Is_M true m Hm.out _).mono ?_
  rintro e w1 ⟨rfl, hb1⟩
  have R1 : Box w1 (w.heap.size + 1 + 1) [.int .i64 0, .int .i64 0, .int .i64 0, .int .i64 0] := Box.below (Box.newAt (by simp) _ _) hb1
  have N1 : Box w1 (w.heap.size + 1) [.int .i64 n.a, .int .i64 n.b, .int .i64 n.c, .int .i64 n.d] := Box.below (Box.alloc (Box.newAt (by simp) _ _) _) hb1
  have M1 : Box w1 w.heap.size [.int .i64 m.a, .int .i64 m.b, .int .i64 m.c, .int .i64 m.d] := Box.below (Box.alloc (Box.alloc (Box.newAt (by simp) _ _) _) _) hb1
  have T1 : Below w.heap.size w w1 := by repeat (first | with_reducible exact own_refl _ | with_reducible assumption | with_reducible apply own_alloc | with_reducible apply own_drewN | with_reducible apply own_drew | ((with_reducible refine own_setCell ?_ ?_ _); rotate_left; focus (first | (simp; done) | (simp; omega))) | (with_reducible (refine own_trans ?_ (by assumption))))
  obtain ⟨_, _, _, _, _, _, _, _, _⟩ := N1.four
  go_wp2_with fail
  refine (l01Is_M true n Hn.out _).mono ?_
  rintro e w2 ⟨rfl, hb2⟩
  go_wp2_with fail
  refine (inR03 true _ HR.out _).mono ?_
  rintro e w3 ⟨rfl, rfl⟩
  go_wp2_with fail
  refine (HMW.out _).mono ?_
  rintro e w4 ⟨ln, hl5, v, rfl, hsl, hb4⟩
  obtain ⟨hl, hu, ad, cap, rfl, hc⟩ := hsl
  obtain rfl : ln = len := by have := HL.out; omega
  have HC := Lib.hid hc
  have hb24 := own_trans hb2 hb4
  have R4 := R1.below hb24
  have N4 := N1.below hb24
  have M4 := M1.below hb24
  have T4 := own_trans T1 hb24
  have z4 := N4.1
  clear hb1 hb2 hb4 hb24 hl hu hc R1 N1 M1 T1
  go_wp2
  go_loopw [10] (fun i wr => ∃ j : Nat, j ≤ ln ∧ i = (.int .i64 j) ∧ Hid (∀ t, t < j → ¬ ldP m n (gAt xs t)) ∧ Below w4.heap.size w4 wr) (fun i _ => ln - (intOf i).toNat)
  case atStart => exact ⟨0, Nat.zero_le _, rfl, Lib.hid fun t ht => by omega, own_refl _⟩
  case round =>
    obtain ⟨j, hj, rfl, HD, T⟩ := hrel
    have Rr := R4.below T
    have Nr := N4.below T
    have Mr := M4.below T
    obtain ⟨_, _, _, _, _, _, _, _, _⟩ := Rr.four
    by_cases hlt : j < ln
    · obtain ⟨g, rfl, hgL, hgU, hcell⟩ := HC.out (by omega)
      obtain ⟨y, hy⟩ : ∃ y, gAt xs j = y := ⟨_, rfl⟩
      have HY := Lib.hid hy
      have c0 : wr.cell? ⟨g, j * 4, none⟩ = some (.int .i64 y.a) := by rw [T.cell (p := ⟨g, j * 4, none⟩) hgU, (hcell (j * 4) (by omega)).1, ← hy]; rfl
      have c1 : wr.cell? ⟨g, j * 4 + 1, none⟩ = some (.int .i64 y.b) := by rw [T.cell (p := ⟨g, j * 4 + 1, none⟩) hgU, (hcell (j * 4 + 1) (by omega)).1, ← hy]; rfl
      have c2 : wr.cell? ⟨g, j * 4 + 2, none⟩ = some (.int .i64 y.c) := by rw [T.cell (p := ⟨g, j * 4 + 2, none⟩) hgU, (hcell (j * 4 + 2) (by omega)).1, ← hy]; rfl
      have c3 : wr.cell? ⟨g, j * 4 + 3, none⟩ = some (.int .i64 y.d) := by rw [T.cell (p := ⟨g, j * 4 + 3, none⟩) hgU, (hcell (j * 4 + 3) (by omega)).1, ← hy]; rfl
      have HEY := Lib.hid (show entM y by rw [← hy]; exact HE.out j)
      obtain ⟨_, _, _, _, _, _, _, _, _⟩ := Nr.four
      obtain ⟨_, _, _, _, _, _, _, _, _⟩ := Mr.four
      obtain ⟨b, hb⟩ : ∃ b : Bool, b = true ↔ ldP m n y := ⟨@decide (ldP m n y) (Classical.propDecidable _), by simp⟩
      have HB := Lib.hid hb
      have hgz : g < wr.heap.size := Nat.lt_of_lt_of_le hgU T.size
      clear hy hcell hb
      go_upto_region 9 with fail
      go_cut [43] (fun s wx => s = .bool b ∧ Below w4.heap.size w4 wx)
      case first =>
        go_region_held3 (fun w' => w'.cell? ⟨w.heap.size, 0, none⟩ = some (.int .i64 m.a) ∧ w'.cell? ⟨w.heap.size, 1, none⟩ = some (.int .i64 m.b) ∧ w'.cell? ⟨w.heap.size, 2, none⟩ = some (.int .i64 m.c) ∧ w'.cell? ⟨w.heap.size, 3, none⟩ = some (.int .i64 m.d) ∧ w'.cell? ⟨w.heap.size + 1, 0, none⟩ = some (.int .i64 n.a) ∧ w'.cell? ⟨w.heap.size + 1, 1, none⟩ = some (.int .i64 n.b) ∧ w'.cell? ⟨w.heap.size + 1, 2, none⟩ = some (.int .i64 n.c) ∧ w'.cell? ⟨w.heap.size + 1, 3, none⟩ = some (.int .i64 n.d) ∧ w'.cell? ⟨g, j * 4, none⟩ = some (.int .i64 y.a) ∧ w'.cell? ⟨g, j * 4 + 1, none⟩ = some (.int .i64 y.b) ∧ w'.cell? ⟨g, j * 4 + 2, none⟩ = some (.int .i64 y.c) ∧ w'.cell? ⟨g, j * 4 + 3, none⟩ = some (.int .i64 y.d)) (go_keep)
          (first
          | (go_at_call 16; refine (specLeads m n y HEM.out HEN.out HEY.out b HB.out _).mono ?_; rintro e w5 ⟨rfl, hb5⟩; have M5 := Box.below (by first | exact Mr | exact Box.drew Mr) hb5; have N5 := Box.below (by first | exact Nr | exact Box.drew Nr) hb5; obtain ⟨_, _, _, _, _, _, _, _, _⟩ := M5.four; obtain ⟨_, _, _, _, _, _, _, _, _⟩ := N5.four; have c0 := (Below.cell hb5 (p := ⟨g, j * 4, none⟩) (by simpa using hgz)).trans c0; have c1 := (Below.cell hb5 (p := ⟨g, j * 4 + 1, none⟩) (by simpa using hgz)).trans c1; have c2 := (Below.cell hb5 (p := ⟨g, j * 4 + 2, none⟩) (by simpa using hgz)).trans c2; have c3 := (Below.cell hb5 (p := ⟨g, j * 4 + 3, none⟩) (by simpa using hgz)).trans c3))
        all_goals
          go_wp2_with fail
          go_meet
          exact ⟨rfl, own_trans T (by first | exact hb5 | exact own_trans (own_drew (own_refl _)) hb5)⟩
      case rest =>
        obtain ⟨rfl, T5⟩ := hcut
        have R5 := R4.below T5
        obtain ⟨_, _, _, _, _, _, _, _, _⟩ := R5.four
        rcases b with _ | _
        · have HD' := Lib.hid (noMore HD.out (fun h => by rw [HY.out] at h; have := HB.out.2 h; cases this))
          clear c0 c1 c2 c3
          go_wp2
          go_roundw
          case rel => exact ⟨j + 1, by omega, by go_num, HD', T5⟩
          case measure => simp [intOf]; omega
        · have HH := Lib.hid (HF.out.hit hlt HD.out (by rw [HY.out]; exact HB.out.1 rfl))
          have c0' : wc.cell? ⟨g, j * 4, none⟩ = some (.int .i64 y.a) := by rw [T5.cell (p := ⟨g, j * 4, none⟩) hgU, ← T.cell (p := ⟨g, j * 4, none⟩) hgU]; exact c0
          have c1' : wc.cell? ⟨g, j * 4 + 1, none⟩ = some (.int .i64 y.b) := by rw [T5.cell (p := ⟨g, j * 4 + 1, none⟩) hgU, ← T.cell (p := ⟨g, j * 4 + 1, none⟩) hgU]; exact c1
          have c2' : wc.cell? ⟨g, j * 4 + 2, none⟩ = some (.int .i64 y.c) := by rw [T5.cell (p := ⟨g, j * 4 + 2, none⟩) hgU, ← T.cell (p := ⟨g, j * 4 + 2, none⟩) hgU]; exact c2
          have c3' : wc.cell? ⟨g, j * 4 + 3, none⟩ = some (.int .i64 y.d) := by rw [T5.cell (p := ⟨g, j * 4 + 3, none⟩) hgU, ← T.cell (p := ⟨g, j * 4 + 3, none⟩) hgU]; exact c3
          clear c0 c1 c2 c3
          go_wp2
          obtain ⟨q0, q1, q2, q3⟩ := R5.reads4C (.int .i64 y.a) (.int .i64 y.b) (.int .i64 y.c) (.int .i64 y.d)
          have TF := own_trans T4 T5
          obtain ⟨e1, e2⟩ := HH.out
          rw [HY.out] at e1
          subst e1 e2
          exact bodyPost_ret (v := .tuple #[(.agg #[.int .i64 r.a, .int .i64 r.b, .int .i64 r.c, .int .i64 r.d]), (.int .i64 0)]) (by simp [results, Try.results7, go_sem, q0, q1, q2, q3]) rfl ⟨rfl, by repeat (first | with_reducible exact own_refl _ | with_reducible assumption | with_reducible apply own_alloc | with_reducible apply own_drewN | with_reducible apply own_drew | ((with_reducible refine own_setCell ?_ ?_ _); rotate_left; focus (first | (simp; done) | (simp; omega))) | (with_reducible (refine own_trans ?_ (by assumption))))⟩
    · have HH := Lib.hid (HF.out.miss (by have : j = ln := by omega
                                          subst this; exact HD.out))
      go_wp2
      obtain ⟨q0, q1, q2, q3⟩ := Rr.reads4C (.int .i64 0) (.int .i64 0) (.int .i64 0) (.int .i64 0)
      have TF := own_trans T4 T
      obtain ⟨e1, e2⟩ := HH.out
      subst e1 e2
      exact bodyPost_ret (v := .tuple #[(.agg #[.int .i64 0, .int .i64 0, .int .i64 0, .int .i64 0]), (.int .i64 4)]) (by simp [results, Try.results7, go_sem, q0, q1, q2, q3]) rfl ⟨rfl, by repeat (first | with_reducible exact own_refl _ | with_reducible assumption | with_reducible apply own_alloc | with_reducible apply own_drewN | with_reducible apply own_drew | ((with_reducible refine own_setCell ?_ ?_ _); rotate_left; focus (first | (simp; done) | (simp; omega))) | (with_reducible (refine own_trans ?_ (by assumption))))⟩
end Go.Proofs.Ytmlbbhhjjepmkaa
