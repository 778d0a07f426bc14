/- spec.MatrixOfRuns: contract. -/
import Derived.Test.YteknmpnkjoopfaaDoorMorI
import Derived.Test.YteknmpnkjoopfaaDoorTM
namespace Go.Proofs.YteknmpnkjoopfaaDoor
open Go.ChangeShapes Go.WideShapes Go.ChangeAt Go.RowKit

theorem runMats_get (xs : List Int) : ∀ (i k : Nat) (h : k < (runMats i xs).length) (x : Int), xs.getD k 0 = x → (runMats i xs)[k] = if (i + k) % 2 = 1 then ⟨1, 0, x, 1⟩ else ⟨1, x, 0, 1⟩ := by
  induction xs with
  | nil => intro i k h; simp [runMats] at h
  | cons y r ih =>
    intro i k h x hx
    cases k with
    | zero => simp at hx; subst hx; simp [runMats]
    | succ k =>
      have := ih (i + 1) k (by simpa [runMats] using h) x (by simpa using hx)
      simp only [runMats, List.getElem_cons_succ, this]
      rw [show i + 1 + k = i + (k + 1) by omega]
theorem times_lit (p q : Mat) (a b c d : Int) (r : Bool) (hp : p.ok = true) (ha : Ent a) (hb : Ent b) (hc : Ent c) (hd : Ent d) (h : TM p ⟨a, b, c, d⟩ q r) (w : World) :
    Calls Tryd.prog 53 #[(.agg #[.int .i64 p.a, .int .i64 p.b, .int .i64 p.c, .int .i64 p.d]), (.agg #[.int .i64 a, .int .i64 b, .int .i64 c, .int .i64 d])] w fun e w' => e = .returned (.tuple #[(.agg #[.int .i64 q.a, .int .i64 q.b, .int .i64 q.c, .int .i64 q.d]), .bool r]) ∧ Below w.heap.size w w' := by
  obtain ⟨h1, h2, h3, h4⟩ := Mat.ok_ent hp
  exact times_is p ⟨a, b, c, d⟩ q r h1 h2 h3 h4 ha hb hc hd h w
/-- What a product from the left has come to: p, or too great a number on the way. -/
def Sofar (ms : List Mat) (k : Nat) (p : Mat) (r : Bool) : Prop := (r = true ∧ p.ok = true ∧ prod Mat.one ms = prod p (ms.drop k)) ∨ (r = false ∧ prod Mat.one ms = none)
theorem Sofar.step {ms : List Mat} {k : Nat} {p m q : Mat} {r : Bool} (h : Sofar ms k p true) (hk : k < ms.length) (hm : ms[k] = m) (ht : TM p m q r) : Sofar ms (k + 1) q r := by
  rcases h with ⟨_, hp, h⟩ | ⟨h, _⟩
  · subst hm
    rcases ht with ⟨h1, rfl, rfl⟩ | ⟨h1, rfl, rfl⟩
    · exact .inl ⟨rfl, h1, h.trans (prod_drop_yes hk h1)⟩
    · exact .inr ⟨rfl, h.trans (prod_drop_no hk h1)⟩
  · cases h
theorem Sofar.ok {ms : List Mat} {k : Nat} {p : Mat} (h : Sofar ms k p true) : p.ok = true := by
  rcases h with ⟨_, hp, _⟩ | ⟨h, _⟩
  · exact hp
  · cases h
theorem Sofar.end_yes {ms : List Mat} {p r : Mat} {kd : Int} (h : Sofar ms ms.length p true) (hPA : PA ms r kd) (ha : ms.all Mat.is = true) : r = p ∧ kd = 0 := by
  rcases h with ⟨_, _, h⟩ | ⟨h, _⟩
  · rw [prod_drop_end] at h
    rcases PA_good hPA ha with ⟨h1, _⟩ | ⟨h1, h2⟩
    · rw [h] at h1; cases h1
    · rw [h] at h1; exact ⟨(Option.some.inj h1).symm, h2⟩
  · cases h
theorem Sofar.end_no {ms : List Mat} {k : Nat} {p r : Mat} {kd : Int} (h : Sofar ms k p false) (hPA : PA ms r kd) (ha : ms.all Mat.is = true) : r = Mat.zero ∧ kd = 3 := by
  rcases h with ⟨h, _⟩ | ⟨_, h⟩
  · cases h
  · rcases PA_good hPA ha with ⟨_, h1, h2⟩ | ⟨h1, _⟩
    · exact ⟨h1, h2⟩
    · rw [h] at h1; cases h1
theorem PA.any (ms : List Mat) : ∃ r kd, PA ms r kd := by
  rcases h : ms.all Mat.is with _ | _
  · exact ⟨_, _, .inl ⟨h, rfl, rfl⟩⟩
  · rcases h2 : prod Mat.one ms with _ | r
    · exact ⟨_, _, .inr (.inl ⟨h, h2, rfl, rfl⟩)⟩
    · exact ⟨_, _, .inr (.inr ⟨h, h2, rfl⟩)⟩
set_option maxHeartbeats 1000000 in
theorem l02Unit_any (w : World) : Calls Tryd.prog 52 #[] w fun e w' => e = .returned (.agg #[.int .i64 1, .int .i64 0, .int .i64 0, .int .i64 1]) ∧ Below w.heap.size w w' := by
  go_enter Tryd.func52, Tryd.ntmps52
  go_wp2
  exact bodyPost_ret (v := (.agg #[.int .i64 1, .int .i64 0, .int .i64 0, .int .i64 1])) (by simp [results, Tryd.results52, go_sem]) rfl ⟨rfl, by repeat (first | with_reducible exact own_refl _ | with_reducible assumption | with_reducible apply own_alloc | with_reducible apply own_drewN | with_reducible apply own_drew | ((with_reducible refine own_setCell ?_ ?_ _); rotate_left; focus (first | (simp; done) | (simp; omega))) | (with_reducible (refine own_trans ?_ (by assumption))))⟩
set_option maxHeartbeats 1000000 in
theorem specMor_long (a : Option Addr) (cap : Nat) (xs : List Int) (hn : 100 < xs.length) (hn' : xs.length ≤ 1048576) (w : World) :
    Calls Tryd.prog 19 #[.slice a xs.length cap] w fun e w' => e = .returned (.tuple #[(.agg #[.int .i64 0, .int .i64 0, .int .i64 0, .int .i64 0]), (.int .i64 2)]) ∧ Below w.heap.size w w' := by
  have h1 : (100 : Int) < (xs.length : Int) := by omega
  go_enter Tryd.func19, Tryd.ntmps19
  go_wp2
  exact bodyPost_ret (v := .tuple #[(.agg #[.int .i64 0, .int .i64 0, .int .i64 0, .int .i64 0]), (.int .i64 2)]) (by simp [results, Tryd.results19, go_sem]) rfl ⟨rfl, by repeat (first | with_reducible exact own_refl _ | with_reducible assumption | with_reducible apply own_alloc | with_reducible apply own_drewN | with_reducible apply own_drew | ((with_reducible refine own_setCell ?_ ?_ _); rotate_left; focus (first | (simp; done) | (simp; omega))) | (with_reducible (refine own_trans ?_ (by assumption))))⟩
set_option maxRecDepth 100000 in
set_option maxHeartbeats 4000000 in
theorem specMor_bad (b off cap : Nat) (xs : List Int) (h1 : 1 ≤ xs.length) (hn : xs.length ≤ 100) (hok : runsOk xs = false) (w : World) (hb : b < w.heap.size) (hc : ∀ k, k < xs.length → w.cell? ⟨b, off + k, none⟩ = some (.int .i64 (xs.getD k 0))) :
    Calls Tryd.prog 19 #[.slice (some ⟨b, off, none⟩) xs.length cap] w fun e w' => e = .returned (.tuple #[(.agg #[.int .i64 0, .int .i64 0, .int .i64 0, .int .i64 0]), (.int .i64 2)]) ∧ Below w.heap.size w w' := by
  have HC := Lib.hid hc
  have HOK := Lib.hid hok
  have hne : ¬ (b = w.heap.size) := by omega
  clear hc hok
  go_enter Tryd.func19, Tryd.ntmps19
  go_wp2
  go_loop [4] (fun i => ∃ k : Nat, k ≤ xs.length ∧ i = (.int .i64 k) ∧ Hid (okFrom 0 xs = okFrom k (xs.drop k)) ∧ Hid (0 < k → xs.length = 1 → xs.getD 0 0 ≠ 0)) (fun i => xs.length - (intOf i).toNat)
  case atStart => exact ⟨0, Nat.zero_le _, rfl, Lib.hid rfl, Lib.hid (fun h => absurd h (by omega))⟩
  case round =>
    obtain ⟨k, hk, rfl, HO, HZ⟩ := hrel
    by_cases hlt : k < xs.length
    · obtain ⟨x, hx⟩ : ∃ x, xs.getD k 0 = x := ⟨_, rfl⟩
      have c1 : w.cell? ⟨b, off + k, none⟩ = some (.int .i64 x) := by rw [← hx]; exact HC.out k hlt
      have HS := Lib.hid (okFrom_step hlt hx)
      have HX := Lib.hid hx
      clear hx
      rcases (show (x < 0 ∨ 1000000000 < x) ∨ (x = 0 ∧ (0 < k ∨ (k = 0 ∧ xs.length = 1))) ∨ (x = 0 ∧ k = 0 ∧ xs.length ≠ 1) ∨ (0 < x ∧ x ≤ 1000000000) by omega) with h | ⟨h, h'⟩ | ⟨h, h', h''⟩ | ⟨h, h'⟩
      · have HN := Lib.hid (show inR x 0 1000000000 = false from decide_eq_false (by omega))
        clear h
        go_wp2_with fail
        refine (l01In_is false _ _ _ HN.out _).mono ?_
        rintro e w1 ⟨rfl, rfl⟩
        go_wp2
        exact bodyPost_ret (v := .tuple #[(.agg #[.int .i64 0, .int .i64 0, .int .i64 0, .int .i64 0]), (.int .i64 2)]) (by simp [results, Tryd.results19, go_sem]) rfl ⟨rfl, by repeat (first | with_reducible exact own_refl _ | with_reducible assumption | with_reducible apply own_alloc | with_reducible apply own_drewN | with_reducible apply own_drew | ((with_reducible refine own_setCell ?_ ?_ _); rotate_left; focus (first | (simp; done) | (simp; omega))) | (with_reducible (refine own_trans ?_ (by assumption))))⟩
      · subst h
        have HN := Lib.hid (show inR 0 0 1000000000 = true by decide)
        rcases h' with h' | ⟨h', h''⟩
        · have hk1 : (0 : Int) < (k : Int) := by omega
          go_wp2_with fail
          refine (l01In_is true _ _ _ HN.out _).mono ?_
          rintro e w1 ⟨rfl, rfl⟩
          go_wp2
          exact bodyPost_ret (v := .tuple #[(.agg #[.int .i64 0, .int .i64 0, .int .i64 0, .int .i64 0]), (.int .i64 2)]) (by simp [results, Tryd.results19, go_sem]) rfl ⟨rfl, by repeat (first | with_reducible exact own_refl _ | with_reducible assumption | with_reducible apply own_alloc | with_reducible apply own_drewN | with_reducible apply own_drew | ((with_reducible refine own_setCell ?_ ?_ _); rotate_left; focus (first | (simp; done) | (simp; omega))) | (with_reducible (refine own_trans ?_ (by assumption))))⟩
        · have hk1 : ¬ (0 : Int) < (k : Int) := by omega
          have hl1 : ((xs.length : Int) == 1) = true := by rw [h'']; rfl
          clear h' h''
          go_wp2_with fail
          refine (l01In_is true _ _ _ HN.out _).mono ?_
          rintro e w1 ⟨rfl, rfl⟩
          go_wp2
          exact bodyPost_ret (v := .tuple #[(.agg #[.int .i64 0, .int .i64 0, .int .i64 0, .int .i64 0]), (.int .i64 2)]) (by simp [results, Tryd.results19, go_sem]) rfl ⟨rfl, by repeat (first | with_reducible exact own_refl _ | with_reducible assumption | with_reducible apply own_alloc | with_reducible apply own_drewN | with_reducible apply own_drew | ((with_reducible refine own_setCell ?_ ?_ _); rotate_left; focus (first | (simp; done) | (simp; omega))) | (with_reducible (refine own_trans ?_ (by assumption))))⟩
      · have HY : Hid (okFrom 0 xs = okFrom (k + 1) (xs.drop (k + 1))) := Lib.hid (by rw [HO.out, HS.out, show okRun k x = true from decide_eq_true (by omega)]; rfl)
        have HZ' : Hid (0 < k + 1 → xs.length = 1 → xs.getD 0 0 ≠ 0) := Lib.hid (fun _ hl => absurd hl h'')
        subst h
        have HN := Lib.hid (show inR 0 0 1000000000 = true by decide)
        have hk1 : ¬ (0 : Int) < (k : Int) := by omega
        have hl1 : ((xs.length : Int) == 1) = false := by simp; omega
        clear h' h''
        go_wp2_with fail
        refine (l01In_is true _ _ _ HN.out _).mono ?_
        rintro e w1 ⟨rfl, rfl⟩
        go_wp2
        go_round
        case rel => exact ⟨k + 1, by omega, by go_num, HY, HZ'⟩
        case measure => simp [intOf]; omega
      · have HY : Hid (okFrom 0 xs = okFrom (k + 1) (xs.drop (k + 1))) := Lib.hid (by rw [HO.out, HS.out, show okRun k x = true from decide_eq_true (by omega)]; rfl)
        have HZ' : Hid (0 < k + 1 → xs.length = 1 → xs.getD 0 0 ≠ 0) := Lib.hid (by
          intro _ hl
          rcases Nat.eq_zero_or_pos k with h0 | h0
          · subst h0; rw [HX.out]; omega
          · exact HZ.out h0 hl)
        have HN := Lib.hid (show inR x 0 1000000000 = true from decide_eq_true (by omega))
        have hx0' : (x == 0) = false := by simp; omega
        go_wp2_with fail
        refine (l01In_is true _ _ _ HN.out _).mono ?_
        rintro e w1 ⟨rfl, rfl⟩
        go_wp2
        go_round
        case rel => exact ⟨k + 1, by omega, by go_num, HY, HZ'⟩
        case measure => simp [intOf]; omega
    · exfalso
      have hke : k = xs.length := by omega
      have h2 : okFrom 0 xs = true := by rw [HO.out, List.drop_of_length_le (by omega)]; rfl
      have h3 : xs ≠ [0] := by
        rintro rfl
        exact HZ.out (by rw [hke]; simp) rfl rfl
      have := HOK.out
      unfold runsOk at this
      rw [decide_eq_true hn, decide_eq_true h3, h2] at this
      cases this
theorem Box.reads4' {w : World} {g : Nat} {x0 x1 x2 x3 : Value} (h : Box w g [x0, x1, x2, x3]) (y0 y1 y2 y3 : Value) :
    (w.setCell ⟨g, 0, none⟩ y0).cell? ⟨g, 0, none⟩ = some y0 ∧ ((w.setCell ⟨g, 0, none⟩ y0).setCell ⟨g, 1, none⟩ y1).cell? ⟨g, 1, none⟩ = some y1 ∧
      (((w.setCell ⟨g, 0, none⟩ y0).setCell ⟨g, 1, none⟩ y1).setCell ⟨g, 2, none⟩ y2).cell? ⟨g, 2, none⟩ = some y2 ∧ ((((w.setCell ⟨g, 0, none⟩ y0).setCell ⟨g, 1, none⟩ y1).setCell ⟨g, 2, none⟩ y2).setCell ⟨g, 3, none⟩ y3).cell? ⟨g, 3, none⟩ = some y3 :=
  ⟨((h.set 0 (by simp) y0).four).2.1, (((h.set 0 (by simp) y0).set 1 (by simp) y1).four).2.2.1, ((((h.set 0 (by simp) y0).set 1 (by simp) y1).set 2 (by simp) y2).four).2.2.2.1, (h.put4 y0 y1 y2 y3).four.2.2.2.2.1⟩
/-- The end of the product's loop: what is stored, and the code. -/
def RetM (r : Mat) (kd : Int) (w : World) (e : Ending) (w' : World) : Prop := e = .returned (.tuple #[(.agg #[.int .i64 r.a, .int .i64 r.b, .int .i64 r.c, .int .i64 r.d]), (.int .i64 kd)]) ∧ Below w.heap.size w w'
set_option maxRecDepth 100000 in
set_option maxHeartbeats 4000000 in
theorem specMor_some (b off cap : Nat) (xs : List Int) (h1 : 1 ≤ xs.length) (hn : xs.length ≤ 100) (hok : runsOk xs = true) (r : Mat) (kd : Int) (hPA : PA (runMats 0 xs) r kd) (w : World)
    (hb : b < w.heap.size) (hc : ∀ k, k < xs.length → w.cell? ⟨b, off + k, none⟩ = some (.int .i64 (xs.getD k 0))) :
    Calls Tryd.prog 19 #[.slice (some ⟨b, off, none⟩) xs.length cap] w (RetM r kd w) := by
  have HC := Lib.hid hc
  have HP := Lib.hid hPA
  have hok2 : (xs ≠ [0]) ∧ okFrom 0 xs = true := by
    unfold runsOk at hok
    simp only [Bool.and_eq_true] at hok
    exact ⟨of_decide_eq_true hok.2.1, hok.2.2⟩
  have HOK := Lib.hid hok2
  have hlen : (runMats 0 xs).length = xs.length := runMats_len xs 0
  have HL := Lib.hid hlen
  have HALL := Lib.hid (runMats_is xs 0 hok2.2)
  have hne : ¬ (b = w.heap.size) := by omega
  clear hc hok hPA hok2 hlen
  go_enter Tryd.func19, Tryd.ntmps19
  go_wp2
  go_loop [4] (fun i => ∃ k : Nat, k ≤ xs.length ∧ i = (.int .i64 k) ∧ Hid (okFrom k (xs.drop k) = true)) (fun i => xs.length - (intOf i).toNat)
  case atStart => exact ⟨0, Nat.zero_le _, rfl, Lib.hid (by simpa using HOK.out.2)⟩
  case round =>
    obtain ⟨k, hk, rfl, HO⟩ := hrel
    by_cases hlt : k < xs.length
    · obtain ⟨x, hx⟩ : ∃ x, xs.getD k 0 = x := ⟨_, rfl⟩
      have c1 : w.cell? ⟨b, off + k, none⟩ = some (.int .i64 x) := by rw [← hx]; exact HC.out k hlt
      have hS := okFrom_step hlt hx
      rw [HO.out] at hS
      have hS2 := (Bool.and_eq_true _ _).mp hS.symm
      have hxr := of_decide_eq_true hS2.1
      have HY := Lib.hid hS2.2
      have HX := Lib.hid hx
      have HN := Lib.hid (show inR x 0 1000000000 = true from decide_eq_true (by omega))
      clear hS hS2 hx
      rcases (show (x = 0 ∧ k = 0) ∨ 0 < x by omega) with ⟨h, h'⟩ | h
      · have hl0 : xs.length ≠ 1 := by
          intro hl
          obtain ⟨y, rfl⟩ := List.length_eq_one_iff.1 hl
          have := HX.out
          subst h'
          simp at this
          exact HOK.out.1 (by rw [this, h])
        subst h
        have hk1 : ¬ (0 : Int) < (k : Int) := by omega
        have hl1 : ((xs.length : Int) == 1) = false := by simp; omega
        clear h' hl0 hxr
        go_wp2_with fail
        refine (l01In_is true _ _ _ HN.out _).mono ?_
        rintro e w1 ⟨rfl, rfl⟩
        go_wp2
        go_round
        case rel => exact ⟨k + 1, by omega, by go_num, HY⟩
        case measure => simp [intOf]; omega
      · have hx0' : (x == 0) = false := by simp; omega
        clear hxr
        go_wp2_with fail
        refine (l01In_is true _ _ _ HN.out _).mono ?_
        rintro e w1 ⟨rfl, rfl⟩
        go_wp2
        go_round
        case rel => exact ⟨k + 1, by omega, by go_num, HY⟩
        case measure => simp [intOf]; omega
    · clear HO
      go_wp2_with fail
      refine (l02Unit_any _).mono ?_
      rintro e w1 ⟨rfl, hb1⟩
      have hT1 : Below w.heap.size w w1 := by repeat (first | with_reducible exact own_refl _ | with_reducible assumption | with_reducible apply own_alloc | with_reducible apply own_drewN | with_reducible apply own_drew | ((with_reducible refine own_setCell ?_ ?_ _); rotate_left; focus (first | (simp; done) | (simp; omega))) | (with_reducible (refine own_trans ?_ (by assumption))))
      have hR1 : Box w1 w.heap.size [.int .i64 0, .int .i64 0, .int .i64 0, .int .i64 0] := Box.below (Box.new _ _ _) hb1
      have hz1 := hR1.1
      have hne1 : ¬ (w1.heap.size = w.heap.size) := by omega
      go_wp2
      go_loopw [6, 7] (fun f i wr => ∃ (k : Nat) (p : Mat) (rr : Bool), k ≤ xs.length ∧ i = (.int .i64 k) ∧ f = .bool rr ∧ Hid (Sofar (runMats 0 xs) k p rr) ∧ Below w.heap.size w wr ∧ Box wr w.heap.size [.int .i64 0, .int .i64 0, .int .i64 0, .int .i64 0] ∧ Box wr w1.heap.size p.cells) (fun _ i _ => xs.length - (intOf i).toNat)
      case atStart => exact ⟨0, Mat.one, true, Nat.zero_le _, rfl, rfl, Lib.hid (.inl ⟨rfl, by decide, rfl⟩), own_alloc hT1 _, hR1.alloc _, Box.new _ _ _⟩
      case round =>
        obtain ⟨k, p, rr, hk, rfl, rfl, HSo, T, hR, hP⟩ := hrel
        by_cases hlt2 : k < xs.length
        · cases rr
          · have hE := HSo.out.end_no HP.out HALL.out
            have HE := Lib.hid hE
            clear hE
            obtain ⟨_, _, _, _, _, _, _, _, _⟩ := hR.four
            go_wp2
            obtain ⟨d0, d1, d2, d3⟩ := hR.reads4' (.int .i64 0) (.int .i64 0) (.int .i64 0) (.int .i64 0)
            refine bodyPost_ret (v := .tuple #[(.agg #[.int .i64 0, .int .i64 0, .int .i64 0, .int .i64 0]), (.int .i64 3)]) (by simp [results, Tryd.results19, go_sem, d0, d1, d2, d3]) rfl ⟨?_, by repeat (first | with_reducible exact own_refl _ | with_reducible assumption | with_reducible apply own_alloc | with_reducible apply own_drewN | with_reducible apply own_drew | ((with_reducible refine own_setCell ?_ ?_ _); rotate_left; focus (first | (simp; done) | (simp; omega))) | (with_reducible (refine own_trans ?_ (by assumption))))⟩
            rw [HE.out.1, HE.out.2]
            rfl
          · obtain ⟨x, hx⟩ : ∃ x, xs.getD k 0 = x := ⟨_, rfl⟩
            have c1 : wr.cell? ⟨b, off + k, none⟩ = some (.int .i64 x) := by rw [T.cell (p := ⟨b, off + k, none⟩) hb, ← hx]; exact HC.out k hlt2
            have HX := Lib.hid hx
            have hk' : k < (runMats 0 xs).length := by rw [HL.out]; exact hlt2
            have hgt := hP.1
            have c2 : (wr.alloc (.cells #[.int .i64 1, .int .i64 x, .int .i64 0, .int .i64 1] 26)).cell? ⟨b, off + k, none⟩ = some (.int .i64 x) := ((own_alloc (own_refl wr) _).cell (p := ⟨b, off + k, none⟩) (Nat.lt_of_lt_of_le hb T.size)).trans c1
            obtain ⟨_, _, _, _, _, _, _, _, _⟩ := hP.four
            clear hx
            rcases (show k % 2 = 0 ∨ k % 2 = 1 by omega) with hp | hp
            · have hp2 : (k : Int).tmod 2 = 0 := by rw [Int.tmod_eq_emod_of_nonneg (by omega)]; omega
              have hm : (runMats 0 xs)[k]'hk' = ⟨1, x, 0, 1⟩ := by rw [runMats_get xs 0 k hk' x HX.out, if_neg (by omega)]
              have hEn := Mat.is_ent (all_get HALL.out k hk')
              rw [hm] at hEn
              have HEN := Lib.hid hEn
              obtain ⟨q, r2, HT⟩ := TM.any p ⟨1, x, 0, 1⟩
              have HNX := Lib.hid (HSo.out.step hk' hm HT)
              have HTM := Lib.hid HT
              clear hm hEn hp HT
              go_wp2_with fail
              refine (times_lit p q 1 x 0 1 r2 HSo.out.ok HEN.out.1 HEN.out.2.1 HEN.out.2.2.1 HEN.out.2.2.2.1 HTM.out _).mono ?_
              rintro e w4 ⟨rfl, hb4⟩
              have P4 := (hP.alloc (.cells #[.int .i64 1, .int .i64 x, .int .i64 0, .int .i64 1] 26)).below hb4
              have R4 := (hR.alloc (.cells #[.int .i64 1, .int .i64 x, .int .i64 0, .int .i64 1] 26)).below hb4
              have T4 : Below w.heap.size w w4 := by repeat (first | with_reducible exact own_refl _ | with_reducible assumption | with_reducible apply own_alloc | with_reducible apply own_drewN | with_reducible apply own_drew | ((with_reducible refine own_setCell ?_ ?_ _); rotate_left; focus (first | (simp; done) | (simp; omega))) | (with_reducible (refine own_trans ?_ (by assumption))))
              obtain ⟨_, _, _, _, _, _, _, _, _⟩ := P4.four
              clear hb4 T hR hP
              go_wp2
              go_roundw
              case rel => exact ⟨k + 1, q, r2, by omega, by go_num, rfl, HNX, by repeat (first | with_reducible exact own_refl _ | with_reducible assumption | with_reducible apply own_alloc | with_reducible apply own_drewN | with_reducible apply own_drew | ((with_reducible refine own_setCell ?_ ?_ _); rotate_left; focus (first | (simp; done) | (simp; omega))) | (with_reducible (refine own_trans ?_ (by assumption)))), (((R4.far (Ne.symm hne1) _).far (Ne.symm hne1) _).far (Ne.symm hne1) _).far (Ne.symm hne1) _, P4.put4 _ _ _ _⟩
              case measure => simp [intOf]; omega
            · have hp2 : (k : Int).tmod 2 = 1 := by rw [Int.tmod_eq_emod_of_nonneg (by omega)]; omega
              have hm : (runMats 0 xs)[k]'hk' = ⟨1, 0, x, 1⟩ := by rw [runMats_get xs 0 k hk' x HX.out, if_pos (by omega)]
              have hEn := Mat.is_ent (all_get HALL.out k hk')
              rw [hm] at hEn
              have HEN := Lib.hid hEn
              obtain ⟨q, r2, HT⟩ := TM.any p ⟨1, 0, x, 1⟩
              have HNX := Lib.hid (HSo.out.step hk' hm HT)
              have HTM := Lib.hid HT
              clear hm hEn hp HT
              go_wp2_with fail
              refine (times_lit p q 1 0 x 1 r2 HSo.out.ok HEN.out.1 HEN.out.2.1 HEN.out.2.2.1 HEN.out.2.2.2.1 HTM.out _).mono ?_
              rintro e w4 ⟨rfl, hb4⟩
              have P4 := (hP.alloc (.cells #[.int .i64 1, .int .i64 0, .int .i64 x, .int .i64 1] 26)).below hb4
              have R4 := (hR.alloc (.cells #[.int .i64 1, .int .i64 0, .int .i64 x, .int .i64 1] 26)).below hb4
              have T4 : Below w.heap.size w w4 := by repeat (first | with_reducible exact own_refl _ | with_reducible assumption | with_reducible apply own_alloc | with_reducible apply own_drewN | with_reducible apply own_drew | ((with_reducible refine own_setCell ?_ ?_ _); rotate_left; focus (first | (simp; done) | (simp; omega))) | (with_reducible (refine own_trans ?_ (by assumption))))
              obtain ⟨_, _, _, _, _, _, _, _, _⟩ := P4.four
              clear hb4 T hR hP
              go_wp2
              go_roundw
              case rel => exact ⟨k + 1, q, r2, by omega, by go_num, rfl, HNX, by repeat (first | with_reducible exact own_refl _ | with_reducible assumption | with_reducible apply own_alloc | with_reducible apply own_drewN | with_reducible apply own_drew | ((with_reducible refine own_setCell ?_ ?_ _); rotate_left; focus (first | (simp; done) | (simp; omega))) | (with_reducible (refine own_trans ?_ (by assumption)))), (((R4.far (Ne.symm hne1) _).far (Ne.symm hne1) _).far (Ne.symm hne1) _).far (Ne.symm hne1) _, P4.put4 _ _ _ _⟩
              case measure => simp [intOf]; omega
        · have hke : k = xs.length := by omega
          cases rr
          · clear hke
            have hE := HSo.out.end_no HP.out HALL.out
            have HE := Lib.hid hE
            clear hE
            obtain ⟨_, _, _, _, _, _, _, _, _⟩ := hR.four
            go_wp2
            obtain ⟨d0, d1, d2, d3⟩ := hR.reads4' (.int .i64 0) (.int .i64 0) (.int .i64 0) (.int .i64 0)
            refine bodyPost_ret (v := .tuple #[(.agg #[.int .i64 0, .int .i64 0, .int .i64 0, .int .i64 0]), (.int .i64 3)]) (by simp [results, Tryd.results19, go_sem, d0, d1, d2, d3]) rfl ⟨?_, by repeat (first | with_reducible exact own_refl _ | with_reducible assumption | with_reducible apply own_alloc | with_reducible apply own_drewN | with_reducible apply own_drew | ((with_reducible refine own_setCell ?_ ?_ _); rotate_left; focus (first | (simp; done) | (simp; omega))) | (with_reducible (refine own_trans ?_ (by assumption))))⟩
            rw [HE.out.1, HE.out.2]
            rfl
          · have hE : r = p ∧ kd = 0 := by
              have h := HSo.out
              rw [hke, ← HL.out] at h
              exact h.end_yes HP.out HALL.out
            have HE := Lib.hid hE
            clear hE hke
            obtain ⟨_, _, _, _, _, _, _, _, _⟩ := hR.four
            obtain ⟨_, _, _, _, _, _, _, _, _⟩ := hP.four
            go_wp2
            obtain ⟨d0, d1, d2, d3⟩ := hR.reads4' (.int .i64 p.a) (.int .i64 p.b) (.int .i64 p.c) (.int .i64 p.d)
            refine bodyPost_ret (v := .tuple #[(.agg #[.int .i64 p.a, .int .i64 p.b, .int .i64 p.c, .int .i64 p.d]), (.int .i64 0)]) (by simp [results, Tryd.results19, go_sem, d0, d1, d2, d3]) rfl ⟨?_, by repeat (first | with_reducible exact own_refl _ | with_reducible assumption | with_reducible apply own_alloc | with_reducible apply own_drewN | with_reducible apply own_drew | ((with_reducible refine own_setCell ?_ ?_ _); rotate_left; focus (first | (simp; done) | (simp; omega))) | (with_reducible (refine own_trans ?_ (by assumption))))⟩
            rw [HE.out.1, HE.out.2]
end Go.Proofs.YteknmpnkjoopfaaDoor
