/- GenusOfAction: both sides. -/
import Derived.Test.YtfchfakkbdfajaaAcU
namespace Go.Proofs.Ytfchfakkbdfajaa
open Go.ChangeShapes Go.WideShapes Go.ChangeAt Go.RowKit

def geA (s t : List Int) : Int := if isA s t then (12 + (s.length : Int) - 3 * (cntP (kp2 s) s.length : Nat) - 4 * (cntP (kp3 s t) s.length : Nat) - 6 * ((cyQ t s.length s.length).2.length : Nat)).tdiv 12 else 0
theorem genusA_is (a b c d : Int) (ha : 0 ≤ a ∧ a ≤ 1000000) (hb : 0 ≤ b ∧ b ≤ 1000000) (hc : 0 ≤ c ∧ c ≤ 1000000) (hd : 0 ≤ d ∧ d ≤ 1000000) (G : Int) (hG : (12 + a - 3 * b - 4 * c - 6 * d).tdiv 12 = G) (w : World) :
    Calls Try.prog 48 #[(.int .i64 a), (.int .i64 b), (.int .i64 c), (.int .i64 d)] w fun e w' => e = .returned (.int .i64 G) ∧ w' = w := by
  have HG := Lib.hid hG
  clear hG
  go_enter Try.func48, Try.ntmps48
  go_wp2
  rw [HG.out]
  go_ret
  exact ⟨rfl, rfl⟩
theorem tdiv12 {x G : Int} (h1 : -1000000 ≤ x) (h2 : x ≤ 1000000) (hG : x.tdiv 12 = G) : -9223372036854775808 ≤ G ∧ G ≤ 9223372036854775807 := by
  by_cases h : 0 ≤ x
  · rw [Int.tdiv_eq_ediv_of_nonneg h] at hG
    omega
  · have e : x = -(-x) := by omega
    rw [e, Int.neg_tdiv, Int.tdiv_eq_ediv_of_nonneg (by omega)] at hG
    omega
def RetGA (s t : List Int) (w : World) (e : Ending) (w' : World) : Prop := e = .returned (.tuple #[(.int .i64 (geA s t)), (.int .i64 (cyC s t))]) ∧ Below w.heap.size w w'
set_option maxHeartbeats 4000000 in
theorem GAi_is (s t : List Int) (hsl : s.length ≤ 9223372036854775807) (u : Value) (w : World) (hu : Ac w u s t) :
    Calls Try.prog 25 #[u] w (RetGA s t w) := by
  have HI := Lib.hid (fun w' (h : Below w.heap.size w w') => CYi_is s t hsl u w' (hu.below h))
  rcases hA : isA s t with _ | _
  · have HR : Hid (∀ w', Below w.heap.size w w' → RetGA s t w (.returned (.tuple #[(.int .i64 0), (.int .i64 1)])) w') := Lib.hid (fun w' hb => by unfold RetGA geA cyC; rw [hA]; exact ⟨rfl, hb⟩)
    have e2 : cyC s t = 1 := by simp [cyC, hA]
    rw [e2] at HI
    obtain ⟨ad, c, ad', c', rfl⟩ := hu.shape
    clear hu hA e2
    go_enter Try.func25, Try.ntmps25
    go_wp2_with fail
    refine (HI.out _ (by repeat (first | with_reducible exact own_refl _ | with_reducible assumption | with_reducible apply own_alloc | with_reducible apply own_drewN | with_reducible apply own_drew | ((with_reducible refine own_setCell ?_ ?_ _); rotate_left; focus (first | (simp; done) | (simp; omega))) | (with_reducible (refine own_trans ?_ (by assumption)))))).mono ?_
    rintro e w2 ⟨v, rfl, _, hb2⟩
    have T2 : Below w.heap.size w w2 := by repeat (first | with_reducible exact own_refl _ | with_reducible assumption | with_reducible apply own_alloc | with_reducible apply own_drewN | with_reducible apply own_drew | ((with_reducible refine own_setCell ?_ ?_ _); rotate_left; focus (first | (simp; done) | (simp; omega))) | (with_reducible (refine own_trans ?_ (by assumption))))
    go_wp2
    go_ret2
    exact HR.out _ T2
  · have ia := isA_is hA
    have e1 : cyA s t = (cyQ t s.length s.length).2 := by simp [cyA, hA]
    have e2 : cyC s t = 0 := by simp [cyC, hA]
    have hn := ia.n72
    have hql := (cyQ_len t s.length s.length).2
    have l2 := cntP_le (kp2 s) s.length
    have l3 := cntP_le (kp3 s t) s.length
    have HR : Hid (∀ G w', (12 + (s.length : Int) - 3 * (cntP (kp2 s) s.length : Nat) - 4 * (cntP (kp3 s t) s.length : Nat) - 6 * ((cyQ t s.length s.length).2.length : Nat)).tdiv 12 = G → Below w.heap.size w w' → RetGA s t w (.returned (.tuple #[(.int .i64 G), (.int .i64 0)])) w') := Lib.hid (fun G w' hG hb => by unfold RetGA geA cyC; rw [hA, ← hG]; exact ⟨rfl, hb⟩)
    rw [e1, e2] at HI
    obtain ⟨a, b, e, ha, hb⟩ := hu
    have X1 := Lib.hid (fun w' (h : Below w.heap.size w w') => countKept_is a b s t s.length (by omega) ia.pS ia.pT ia.n1 ⟨#[83]⟩ ltrS1 (by decide) (kp2 s) (fun i => rfl) w' (ha.below h) (hb.below h))
    have X2 := Lib.hid (fun w' (h : Below w.heap.size w w') => countKept_is a b s t s.length (by omega) ia.pS ia.pT ia.n1 ⟨#[84, 83]⟩ ltrTS1 (by decide) (kp3 s t) (fun i => rfl) w' (ha.below h) (hb.below h))
    obtain ⟨ad, c, rfl, _⟩ := ha
    obtain ⟨ad', c', rfl, _⟩ := hb
    subst e
    clear hA e1 e2 ia
    generalize (cyQ t s.length s.length).2 = css at *
    generalize cntP (kp2 s) s.length = q2 at *
    generalize cntP (kp3 s t) s.length = q3 at *
    generalize s.length = n at *
    generalize t.length = m at *
    obtain ⟨l, hl⟩ : ∃ l, css.length = l := ⟨_, rfl⟩
    rw [hl] at hql
    obtain ⟨G, hG⟩ : ∃ G, (12 + (n : Int) - 3 * (q2 : Nat) - 4 * (q3 : Nat) - 6 * (l : Nat)).tdiv 12 = G := ⟨_, rfl⟩
    have HGx := Lib.hid (genusA_is (n : Int) (q2 : Nat) (q3 : Nat) (l : Nat) (by omega) (by omega) (by omega) (by omega) G hG)
    have HR := Lib.hid (fun w' h => HR.out G w' (by rw [hl]; exact hG) h)
    have HLl := Lib.hid hl
    clear hG hl
    go_enter Try.func25, Try.ntmps25
    go_wp2_with fail
    refine (HI.out _ (by repeat (first | with_reducible exact own_refl _ | with_reducible assumption | with_reducible apply own_alloc | with_reducible apply own_drewN | with_reducible apply own_drew | ((with_reducible refine own_setCell ?_ ?_ _); rotate_left; focus (first | (simp; done) | (simp; omega))) | (with_reducible (refine own_trans ?_ (by assumption)))))).mono ?_
    rintro e w2 ⟨v, rfl, hGS, hb2⟩
    obtain ⟨av, kv, e⟩ := hGS.shape
    rw [HLl.out] at e
    subst e
    have Bw2_0 : Box w2 (w.heap.size) [.slice ad n c, .slice ad' m c'] := by refine Box.below ?_ hb2; repeat (first | with_reducible assumption | with_reducible exact Box.new _ _ _ | (with_reducible refine Box.newAt ?_ _ _; (simp; done)) | with_reducible apply Box.alloc | with_reducible apply Box.drewN | with_reducible apply Box.drew)
    obtain ⟨_, _, _, _, _⟩ := Bw2_0.two
    have T2 : Below w.heap.size w w2 := by repeat (first | with_reducible exact own_refl _ | with_reducible assumption | with_reducible apply own_alloc | with_reducible apply own_drewN | with_reducible apply own_drew | ((with_reducible refine own_setCell ?_ ?_ _); rotate_left; focus (first | (simp; done) | (simp; omega))) | (with_reducible (refine own_trans ?_ (by assumption))))
    go_upto_region 4 with fail
    go_region_held3 (fun w' => w'.cell? ⟨w.heap.size, 0, none⟩ = some (.slice ad n c) ∧ w'.cell? ⟨w.heap.size, 1, none⟩ = some (.slice ad' m c')) (go_keep)
      (first
        | (go_at_call 48; (with_reducible refine (HGx.out _).mono ?_); rintro e w5 ⟨rfl, rfl⟩)
        | (go_at_call 47; (with_reducible refine (X2.out _ T1).mono ?_); rintro e w4 ⟨rfl, hb4⟩; have T4 := own_trans T1 hb4; have B4 := B1.below hb4; obtain ⟨-, c40, c41, -, -⟩ := B4.two; clear hb4)
        | (go_at_call 47; (with_reducible refine (X1.out _ U1).mono ?_); rintro e w4 ⟨rfl, hb4⟩; have T4 := own_trans U1 hb4; have B4 := B1.below hb4; obtain ⟨-, c40, c41, -, -⟩ := B4.two; clear hb4)
        | (go_at_call 47; (with_reducible refine (X1.out _ (own_drew T2)).mono ?_); rintro e w1 ⟨rfl, hb1⟩; have T1 := own_trans (own_drew T2) hb1; have B1 := (Bw2_0.drew).below hb1; obtain ⟨-, c10, c11, -, -⟩ := B1.two; clear hb1)
        | (go_at_call 47; (with_reducible refine (X2.out _ (own_drew T2)).mono ?_); rintro e w1 ⟨rfl, hb1⟩; have U1 := own_trans (own_drew T2) hb1; have B1 := (Bw2_0.drew).below hb1; obtain ⟨-, c10, c11, -, -⟩ := B1.two; clear hb1))
    all_goals
      go_wp2
      go_ret2
      exact HR.out _ T4
set_option maxHeartbeats 4000000 in
theorem GAs_is (s t : List Int) (hsl : s.length ≤ 9223372036854775807) (u : Value) (w : World) (hu : Ac w u s t) :
    Calls Try.prog 24 #[u] w (RetGA s t w) := by
  have HI := Lib.hid (l10Is_at u s t hsl w hu)
  rcases hA : isA s t with _ | _
  · have HR : Hid (∀ w', Below w.heap.size w w' → RetGA s t w (.returned (.tuple #[(.int .i64 0), (.int .i64 1)])) w') := Lib.hid (fun w' hb => by unfold RetGA geA cyC; rw [hA]; exact ⟨rfl, hb⟩)
    rw [hA] at HI
    obtain ⟨ad, c, ad', c', rfl⟩ := hu.shape
    clear hu hA
    go_enter Try.func24, Try.ntmps24
    go_wp2_with fail
    refine (HI.out _ (by repeat (first | with_reducible exact own_refl _ | with_reducible assumption | with_reducible apply own_alloc | with_reducible apply own_drewN | with_reducible apply own_drew | ((with_reducible refine own_setCell ?_ ?_ _); rotate_left; focus (first | (simp; done) | (simp; omega))) | (with_reducible (refine own_trans ?_ (by assumption)))))).mono ?_
    rintro e w2 ⟨rfl, hb2⟩
    have T2 : Below w.heap.size w w2 := by repeat (first | with_reducible exact own_refl _ | with_reducible assumption | with_reducible apply own_alloc | with_reducible apply own_drewN | with_reducible apply own_drew | ((with_reducible refine own_setCell ?_ ?_ _); rotate_left; focus (first | (simp; done) | (simp; omega))) | (with_reducible (refine own_trans ?_ (by assumption))))
    go_wp2
    go_ret2
    exact HR.out _ T2
  · have ia := isA_is hA
    have hn := ia.n72
    have hql := (cyQ_len t s.length s.length).2
    have l2 := cntP_le (kp2 s) s.length
    have l3 := cntP_le (kp3 s t) s.length
    have HR : Hid (∀ G w', (12 + (s.length : Int) - 3 * (cntP (kp2 s) s.length : Nat) - 4 * (cntP (kp3 s t) s.length : Nat) - 6 * ((cyQ t s.length s.length).2.length : Nat)).tdiv 12 = G → Below w.heap.size w w' → RetGA s t w (.returned (.tuple #[(.int .i64 G), (.int .i64 0)])) w') := Lib.hid (fun G w' hG hb => by unfold RetGA geA cyC; rw [hA, ← hG]; exact ⟨rfl, hb⟩)
    rw [hA] at HI
    have HC := Lib.hid (cyS_at ia hu)
    obtain ⟨a, b, e, ha, hb⟩ := hu
    have X3 := Lib.hid (fun w' (h : Below w.heap.size w w') => l10Kept_is a b s t s.length (by omega) ia.pS ia.pT ia.n1 w' (ha.below h) (hb.below h))
    obtain ⟨ad, c, rfl, _⟩ := ha
    obtain ⟨ad', c', rfl, _⟩ := hb
    subst e
    clear hA ia
    generalize (cyQ t s.length s.length).2 = css at *
    generalize cntP (kp2 s) s.length = q2 at *
    generalize cntP (kp3 s t) s.length = q3 at *
    generalize s.length = n at *
    generalize t.length = m at *
    obtain ⟨l, hl⟩ : ∃ l, css.length = l := ⟨_, rfl⟩
    rw [hl] at hql
    obtain ⟨G, hG⟩ : ∃ G, (12 + (n : Int) - 3 * (q2 : Nat) - 4 * (q3 : Nat) - 6 * (l : Nat)).tdiv 12 = G := ⟨_, rfl⟩
    have HR := Lib.hid (fun w' h => HR.out G w' (by rw [hl]; exact hG) h)
    have HC2 : Hid (∀ w', Below w.heap.size w w' → Calls Try.prog 43 #[.agg #[.slice ad n c, .slice ad' m c']] w' fun e w'' => ∃ av kv, e = .returned (.slice av l kv) ∧ Below w'.heap.size w' w'') := Lib.hid (fun w' h => (HC.out w' h).mono fun e w'' ⟨v, he, hg, hb⟩ => by
      obtain ⟨av, kv, e2⟩ := hg.shape
      rw [hl] at e2
      subst e2
      exact ⟨av, kv, he, hb⟩)
    have HGG := Lib.hid hG
    clear hG hl HC
    go_enter Try.func24, Try.ntmps24
    go_wp2_with fail
    refine (HI.out _ (by repeat (first | with_reducible exact own_refl _ | with_reducible assumption | with_reducible apply own_alloc | with_reducible apply own_drewN | with_reducible apply own_drew | ((with_reducible refine own_setCell ?_ ?_ _); rotate_left; focus (first | (simp; done) | (simp; omega))) | (with_reducible (refine own_trans ?_ (by assumption)))))).mono ?_
    rintro e w2 ⟨rfl, hb2⟩
    have Bw2_0 : Box w2 (w.heap.size) [.slice ad n c, .slice ad' m c'] := by refine Box.below ?_ hb2; repeat (first | with_reducible assumption | with_reducible exact Box.new _ _ _ | (with_reducible refine Box.newAt ?_ _ _; (simp; done)) | with_reducible apply Box.alloc | with_reducible apply Box.drewN | with_reducible apply Box.drew)
    obtain ⟨_, _, _, _, _⟩ := Bw2_0.two
    have T2 : Below w.heap.size w w2 := by repeat (first | with_reducible exact own_refl _ | with_reducible assumption | with_reducible apply own_alloc | with_reducible apply own_drewN | with_reducible apply own_drew | ((with_reducible refine own_setCell ?_ ?_ _); rotate_left; focus (first | (simp; done) | (simp; omega))) | (with_reducible (refine own_trans ?_ (by assumption))))
    go_wp2_with fail
    refine (X3.out _ T2).mono ?_
    rintro e w3 ⟨rfl, hb3⟩
    have T3 := own_trans T2 hb3
    have B3 := Bw2_0.below hb3
    obtain ⟨-, b0, b1, -, -⟩ := B3.two
    clear hb2 hb3
    have v1 : IntKind.i64.wrap (12 + (n : Int)) = 12 + n := IntWalk.i64_in _ (by omega)
    have v2 : IntKind.i64.wrap (3 * (q2 : Int)) = 3 * q2 := IntWalk.i64_in _ (by omega)
    have v3 : IntKind.i64.wrap (12 + (n : Int) - 3 * q2) = 12 + n - 3 * q2 := IntWalk.i64_in _ (by omega)
    have v4 : IntKind.i64.wrap (4 * (q3 : Int)) = 4 * q3 := IntWalk.i64_in _ (by omega)
    have v5 : IntKind.i64.wrap (12 + (n : Int) - 3 * q2 - 4 * q3) = 12 + n - 3 * q2 - 4 * q3 := IntWalk.i64_in _ (by omega)
    have v6 : IntKind.i64.wrap (6 * (l : Int)) = 6 * l := IntWalk.i64_in _ (by omega)
    have v7 : IntKind.i64.wrap (12 + (n : Int) - 3 * q2 - 4 * q3 - 6 * l) = 12 + n - 3 * q2 - 4 * q3 - 6 * l := IntWalk.i64_in _ (by omega)
    have v8 : IntKind.i64.wrap G = G := IntWalk.i64_in _ (tdiv12 (by omega) (by omega) HGG.out)
    go_upto_region 4 with fail
    go_region_held3 (fun w' => w'.cell? ⟨w.heap.size, 0, none⟩ = some (.slice ad n c) ∧ w'.cell? ⟨w.heap.size, 1, none⟩ = some (.slice ad' m c')) (go_keep)
      (first
        | (go_at_call 43; (with_reducible refine (HC2.out _ (own_drew T3)).mono ?_); rintro e w4 ⟨av, kv, rfl, hb4⟩; have T4 := own_trans (own_drew T3) hb4; have B4 := (B3.drew).below hb4; obtain ⟨-, c40, c41, -, -⟩ := B4.two; clear hb4))
    all_goals
      go_wp2
      try simp only [v1, v2, v3, v4, v5, v6, v7]
      rw [HGG.out]
      try rw [v8]
      go_ret2
      exact HR.out _ T4
theorem lawGenusOfAction_pre (s t : List Int) (ns : s.length ≤ 9223372036854775807) (w : World) (u : Value) (h : Ac w u s t) :
    (Calls Try.prog 24 #[u] w fun e w' => e = .returned (.tuple #[(.int .i64 (geA s t)), (.int .i64 (cyC s t))]) ∧ Below w.heap.size w w') ∧ (Calls Try.prog 25 #[u] w fun e w' => e = .returned (.tuple #[(.int .i64 (geA s t)), (.int .i64 (cyC s t))]) ∧ Below w.heap.size w w') :=
  ⟨GAs_is s t ns u w h, GAi_is s t ns u w h⟩
end Go.Proofs.Ytfchfakkbdfajaa
