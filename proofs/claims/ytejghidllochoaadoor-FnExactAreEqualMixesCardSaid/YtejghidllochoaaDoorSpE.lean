/- The model's reduction: mathematics. -/
import Derived.Test.YtejghidllochoaaDoorSpK
import Derived.Test.YtejghidllochoaaDoorMxU
namespace Go.Proofs.YtejghidllochoaaDoor
open Go.ChangeShapes Go.WideShapes Go.ChangeAt Go.RowKit
open Ech (Sp Rw Stair)

/-- the row with its first number at a -/
def rowE (E : Nat → Option (List Int)) (a : Nat) : List Int := (E a).getD []
/-- The model's rows: their first numbers are 1 and stand at the places A, in the order of making; later rows have 0 at earlier places. -/
structure Red (p : Int) (N : Nat) (E : Nat → Option (List Int)) (A : List Nat) : Prop where
  rows : Rows8 p N E
  low : ∀ a ∈ A, a < N
  has : ∀ a, a ∈ A ↔ (E a).isSome = true
  nodup : A.Nodup
  one : ∀ a ∈ A, gv (rowE E a) a = 1
  tri : A.Pairwise fun a b => gv (rowE E b) a = 0
theorem Red.start (p : Int) (N : Nat) : Red p N (fun _ => none) [] :=
  ⟨fun i _ xs h => (by cases h), by simp, by simp, by simp, by simp, by simp⟩
theorem Red.row {p : Int} {N : Nat} {E : Nat → Option (List Int)} {A : List Nat} (h : Red p N E A) {a : Nat} (ha : a ∈ A) : E a = some (rowE E a) := by
  have := (h.has a).1 ha
  unfold rowE
  rcases hE : E a with _ | e
  · rw [hE] at this; cases this
  · rfl
/-- What the model keeps when the rows of the first k places of A are taken off. -/
def LT8 (p : Int) (N : Nat) (E : Nat → Option (List Int)) (A : List Nat) (x : Nat → Int) (ys : List Int) (k : Nat) : Prop :=
  Rp p N ys ∧ (∀ a ∈ A.take k, gv ys a = 0) ∧ Sp p N (with1 (RE N E) x) (gv ys) ∧ Sp p N (with1 (RE N E) (gv ys)) x
theorem LT8.start {p : Int} {N : Nat} {E : Nat → Option (List Int)} {A : List Nat} {x : Nat → Int} {ys : List Int} (hp : 1 ≤ p) (hl : ys.length = N) (h : ∀ j, j < N → gv ys j = rst (x j) p) : LT8 p N E A x ys 0 := by
  obtain ⟨h1, _, h3, h4⟩ := TI.start (E := E) hp hl h
  exact ⟨h1, by simp, h3, h4⟩
theorem takeN_mem {A : List Nat} {k a : Nat} (hk : k < A.length) (h : a ∈ A.take (k + 1)) : a ∈ A.take k ∨ a = A.getD k 0 := by
  rw [List.take_add_one] at h
  simp only [List.mem_append] at h
  rcases h with h | h
  · exact .inl h
  · right
    simp [List.getElem?_eq_getElem hk] at h
    rw [h]
    simp [List.getD, List.getElem?_eq_getElem hk]
theorem Red.tri_at {p : Int} {N : Nat} {E : Nat → Option (List Int)} {A : List Nat} (h : Red p N E A) {k a : Nat} (hk : k < A.length) (ha : a ∈ A.take k) : gv (rowE E (A.getD k 0)) a = 0 := by
  obtain ⟨i, hi, rfl⟩ := List.getElem_of_mem ha
  have hi2 : i < k ∧ i < A.length := by simp at hi; omega
  have h2 := List.pairwise_iff_getElem.1 h.tri i k hi2.2 hk hi2.1
  simp only [List.getElem_take, List.getD, List.getElem?_eq_getElem hk, Option.getD_some]
  exact h2
theorem LT8.skip {p : Int} {N : Nat} {E : Nat → Option (List Int)} {A : List Nat} {x : Nat → Int} {ys : List Int} {k : Nat} (h : LT8 p N E A x ys k) (hk : k < A.length) (hz : gv ys (A.getD k 0) = 0) : LT8 p N E A x ys (k + 1) := by
  obtain ⟨h1, h2, h3, h4⟩ := h
  refine ⟨h1, fun a ha => ?_, h3, h4⟩
  rcases takeN_mem hk ha with h | rfl
  · exact h2 a h
  · exact hz
theorem LT8.take {p : Nat} (hp : (1 : Int) < p) {N : Nat} {E : Nat → Option (List Int)} {A : List Nat} {x : Nat → Int} {ys zs : List Int} {k : Nat} (hR : Red p N E A) (h : LT8 p N E A x ys k) (hk : k < A.length)
    (hl : zs.length = N) (hz : ∀ j, j < N → gv zs j = if A.getD k 0 ≤ j then rst (gv ys j - gv ys (A.getD k 0) * gv (rowE E (A.getD k 0)) j) p else gv ys j) : LT8 p N E A x zs (k + 1) := by
  obtain ⟨h1, h2, h3, h4⟩ := h
  have hm : A.getD k 0 ∈ A := by
    simp only [List.getD, List.getElem?_eq_getElem hk, Option.getD_some]
    exact List.getElem_mem hk
  obtain ⟨a, ha⟩ : ∃ a, A.getD k 0 = a := ⟨_, rfl⟩
  have htri := fun b (hb : b ∈ A.take k) => hR.tri_at hk hb
  rw [ha] at hm hz htri
  have haN := hR.low a hm
  have hE := hR.row hm
  have h1a := hR.one a hm
  obtain ⟨e1, e2, e3⟩ := hR.rows a haN _ hE
  generalize rowE E a = e at *
  have hmem : RE N E (gv e) := ⟨a, haN, e, hE, rfl⟩
  have hz2 : ∀ j, j < N → gv zs j = rst (gv ys j - gv ys a * gv e j) p := fun j hj => by
    rw [hz j hj]
    split
    · rfl
    · rw [e2 j (by omega), rst_emod _ _ (by omega)]
      obtain ⟨q1, q2⟩ := h1.2 j hj
      rw [Int.mul_zero, Int.sub_zero, Int.emod_eq_of_lt q1 q2]
  have hdv : ∀ j, j < N → (p : Int) ∣ gv zs j - (gv ys j - gv ys a * gv e j) := fun j hj => by rw [hz2 j hj]; exact rst_dvd (by omega)
  refine ⟨⟨hl, fun j hj => by rw [hz2 j hj]; exact rst_bd (by omega)⟩, fun b hb => ?_, ?_, ?_⟩
  · rcases takeN_mem hk hb with hb' | rfl
    · have hbN := hR.low b (List.mem_of_mem_take hb')
      rw [hz2 b hbN, h2 b hb', htri b hb', rst_emod _ _ (by omega)]
      simp
    · rw [ha, hz2 a haN, h1a, rst_emod _ _ (by omega)]
      simp
  · refine Sp.lin (-(gv ys a)) h3 (Sp.mem (.inl hmem)) fun j hj => ?_
    refine Ech.dvd_eq (hdv j hj) ?_
    rw [Int.neg_mul]
    omega
  · refine h4.trans fun r hr => ?_
    rcases hr with hr | rfl
    · exact Sp.mem (.inl hr)
    · refine Sp.lin (gv ys a) (Sp.mem (.inr rfl)) (Sp.mem (.inl hmem)) fun j hj => ?_
      refine Ech.dvd_eq (Int.dvd_neg.2 (hdv j hj)) ?_
      omega
/-- nothing is left -/
theorem Red.same {p : Nat} {n : Int} {N m : Nat} {E : Nat → Option (List Int)} {A : List Nat} {ys : List Int} (h : SPAN p n N m E) (ht : LT8 p N E A (gv (rel n N m)) ys A.length) (h0 : ∀ k, k < N → gv ys k = 0) : SPAN p n N (m + 1) E :=
  h.same ⟨ht.1, fun j _ hj => h0 j hj, ht.2.2.1, ht.2.2.2⟩
/-- What is left and its first number. -/
theorem Red.more {p : Nat} (hp5 : Ech.fiveP p) {N : Nat} {E : Nat → Option (List Int)} {A : List Nat} {x : Nat → Int} {ys zs : List Int} {a : Nat} {v : Int} (hR : Red p N E A) (ht : LT8 p N E A x ys A.length) (ha : a < N)
    (hb : ∀ k, k < a → gv ys k = 0) (hz : gv ys a ≠ 0) (hv : (p : Int) ∣ gv ys a * v - 1) (hl : zs.length = N) (hzs : ∀ j, j < N → gv zs j = gv ys j * v % p) :
    Red p N (upd E a zs) (A ++ [a]) ∧ E a = none ∧ (∀ k, k < a → gv zs k = 0) ∧ gv zs a ≠ 0 ∧ TI p N E x zs a := by
  have hp : (5 : Int) ≤ p := by rcases hp5 with rfl | rfl | rfl | rfl | rfl <;> omega
  obtain ⟨t1, t2, t3, t4⟩ := ht
  rw [List.take_length] at t2
  have hA : a ∉ A := fun h => hz (t2 a h)
  have hE : E a = none := by
    rcases h : E a with _ | e
    · rfl
    · exact absurd ((hR.has a).2 (by rw [h]; rfl)) hA
  have hone : gv zs a = 1 := by
    rw [hzs a ha]
    have := emod_of_dvd hv
    rw [this]
    exact Int.emod_eq_of_lt (by omega) (by omega)
  have hzero : ∀ j, j < N → gv ys j = 0 → gv zs j = 0 := fun j hj h => by rw [hzs j hj, h]; simp
  have hRp : Rp p N zs := ⟨hl, fun k hk => by rw [hzs k hk]; exact ⟨Int.emod_nonneg _ (by omega), Int.emod_lt_of_pos _ (by omega)⟩⟩
  have hlow : ∀ k, k < a → gv zs k = 0 := fun k hk => hzero k (by omega) (hb k hk)
  have hdv : ∀ j, j < N → (p : Int) ∣ gv zs j - v * gv ys j := fun j hj => by
    rw [hzs j hj, Int.mul_comm v]
    exact dvd_emod _ _
  have hrow : ∀ b, b ≠ a → rowE (upd E a zs) b = rowE E b := fun b h => by unfold rowE upd; rw [if_neg h]
  have hrowa : rowE (upd E a zs) a = zs := by unfold rowE upd; rw [if_pos rfl]; rfl
  refine ⟨⟨fun i hi xs e => ?_, fun b h => ?_, fun b => ?_, ?_, fun b h => ?_, ?_⟩, hE, hlow, by omega, hRp, fun j hj hjN => hlow j hj, ?_, ?_⟩
  · unfold upd at e
    by_cases e1 : i = a
    · subst e1
      rw [if_pos rfl] at e
      injection e with e
      subst e
      exact ⟨hRp, hlow, by omega⟩
    · rw [if_neg e1] at e
      exact hR.rows i hi xs e
  · rcases List.mem_append.1 h with h | h
    · exact hR.low b h
    · simp at h; omega
  · rw [List.mem_append, List.mem_singleton, hR.has b]
    unfold upd
    by_cases e1 : b = a
    · simp [e1]
    · simp [e1]
  · rw [List.nodup_append]
    exact ⟨hR.nodup, by simp, fun b hb c hc => by simp at hc; rintro rfl; rw [hc] at hb; exact hA hb⟩
  · by_cases e1 : b = a
    · rw [e1, hrowa]; exact hone
    · rw [hrow b e1]
      rcases List.mem_append.1 h with h | h
      · exact hR.one b h
      · simp at h; exact absurd h e1
  · rw [List.pairwise_append]
    refine ⟨?_, by simp, fun b hbA c hc => ?_⟩
    · refine hR.tri.imp_of_mem fun {b c} hb hc h => ?_
      rw [hrow c (fun e => hA (e ▸ hc))]
      exact h
    · have hc' : c = a := by simpa using hc
      rw [hc', hrowa]
      exact hzero b (hR.low b hbA) (t2 b hbA)
  · refine Sp.lin (x := fun _ => 0) v (.zero _ fun _ _ => ⟨0, by simp⟩) t3 fun j hj => ?_
    refine Ech.dvd_eq (hdv j hj) ?_
    omega
  · refine t4.trans fun r hr => ?_
    rcases hr with hr | rfl
    · exact Sp.mem (.inl hr)
    · refine Sp.unit (u := v) (v := gv ys a) (Ech.dvd_eq hv (by rw [Int.mul_comm])) ?_
      refine (Sp.mem (R := with1 (RE N E) (gv zs)) (.inr rfl)).congr fun j hj => ?_
      refine Ech.dvd_eq (Int.dvd_neg.2 (hdv j hj)) ?_
      omega
end Go.Proofs.YtejghidllochoaaDoor
/- The model's l08Inverse and l08Left: contracts. -/
namespace Go.Proofs.YtejghidllochoaaDoor
open Go.ChangeShapes Go.WideShapes Go.ChangeAt Go.RowKit
open Ech (Sp Rw Stair)

theorem pwG_0 (p f a out : Nat) : Ech.pwG p f 0 a out = out := by cases f <;> simp [Ech.pwG]
theorem half_lt {k f : Nat} (h : k < 2 ^ (f + 1)) : k / 2 < 2 ^ f := by
  rw [Nat.pow_succ] at h
  omega
set_option maxHeartbeats 2000000 in
theorem l08Inverse_is (p a : Nat) (hp5 : Ech.fiveP p) (ha : a < p) (w : World) :
    Calls Tryd.prog 72 #[(.int .i64 ((a : Int))), (.int .i64 ((p : Int)))] w fun e w' => e = .returned (.int .i64 ((Ech.invN p a : Int))) ∧ w = w' := by
  have hp1 : 5 ≤ p ∧ p ≤ 10007 := by rcases hp5 with rfl | rfl | rfl | rfl | rfl <;> omega
  have hk14 : p - 2 < 2 ^ 14 := by omega
  clear hp5
  have hpk : (p : Int) - 2 = ((p - 2 : Nat) : Int) := by omega
  have HPK := Lib.hid hpk
  clear hpk
  go_enter Tryd.func72, Tryd.ntmps72
  go_wp2
  go_loopw [0, 5, 6] (fun x o k wr => ∃ (f k' a' o' : Nat), x = (.int .i64 ((a' : Int))) ∧ o = (.int .i64 ((o' : Int))) ∧ k = (.int .i64 ((k' : Int))) ∧ a' < p ∧ o' < p ∧ Hid (k' < 2 ^ f) ∧ Hid (Ech.invN p a = Ech.pwG p f k' a' o') ∧ k' ≤ 10005 ∧ wr = w) (fun _ _ k _ => (intOf k).toNat)
  case atStart => exact ⟨14, p - 2, a, 1, rfl, rfl, by rw [← HPK.out], ha, by omega, Lib.hid hk14, Lib.hid rfl, by omega, by first | trivial | rfl⟩
  case round =>
    obtain ⟨f, k, a', o, rfl, rfl, rfl, ha', ho, HK, HV, hk, rfl⟩ := hrel
    have m1 := mul_bdP (show 0 ≤ (a' : Int) ∧ (a' : Int) ≤ 10006 by omega) (show 0 ≤ (a' : Int) ∧ (a' : Int) ≤ 10006 by omega)
    have m2 := mul_bdP (show 0 ≤ (o : Int) ∧ (o : Int) ≤ 10006 by omega) (show 0 ≤ (a' : Int) ∧ (a' : Int) ≤ 10006 by omega)
    have e1 : ((a' : Int) * (a' : Int)) % (p : Int) = ((a' * a' % p : Nat) : Int) := by simp
    have e2 : ((o : Int) * (a' : Int)) % (p : Int) = ((o * a' % p : Nat) : Int) := by simp
    by_cases h0 : 0 < k
    · obtain ⟨f, rfl⟩ : ∃ f', f = f' + 1 := ⟨f - 1, by have := HK.out; rcases f with _ | f; simp at this; omega; omega⟩
      have HK2 := Lib.hid (half_lt HK.out)
      have r1 : a' * a' % p < p := Nat.mod_lt _ (by omega)
      have r2 : o * a' % p < p := Nat.mod_lt _ (by omega)
      have hstep : Ech.invN p a = Ech.pwG p f (k / 2) (a' * a' % p) (if k % 2 = 1 then o * a' % p else o) := by rw [HV.out, Ech.pwG, if_neg (by omega)]
      have hpne : ¬ (p : Int) = 0 := by omega
      obtain ⟨q1, hq1⟩ : ∃ q1 : Int, (a' : Int) * (a' : Int) = q1 := ⟨_, rfl⟩
      obtain ⟨q2, hq2⟩ : ∃ q2 : Int, (o : Int) * (a' : Int) = q2 := ⟨_, rfl⟩
      have hw1 : IntKind.i64.wrap ((a' : Int) * (a' : Int)) = q1 := by rw [hq1]; exact IntWalk.i64_in _ (by omega)
      have hw2 : IntKind.i64.wrap ((o : Int) * (a' : Int)) = q2 := by rw [hq2]; exact IntWalk.i64_in _ (by omega)
      rw [hq1] at e1 m1
      rw [hq2] at e2 m2
      generalize a' * a' % p = n1 at *
      generalize o * a' % p = n2 at *
      obtain ⟨_, _⟩ := m1
      obtain ⟨_, _⟩ := m2
      clear hq1 hq2
      by_cases hodd : k % 2 = 1
      · rw [if_pos hodd] at hstep
        have HST := Lib.hid hstep
        have hm : ((k : Int) % 2 == 1) = true := by simp; omega
        clear hstep hodd hpne
        go_wp2
        go_roundw
        case rel => exact ⟨f, k / 2, n1, n2, by first | rfl | rw [e1], by first | rfl | rw [e2], by go_num, r1, r2, HK2, HST, by omega, by first | trivial | rfl⟩
        case measure => simp [intOf]; omega
      · rw [if_neg hodd] at hstep
        have HST := Lib.hid hstep
        have hm : ((k : Int) % 2 == 1) = false := by simp; omega
        clear hstep hodd hpne
        go_wp2
        go_roundw
        case rel => exact ⟨f, k / 2, n1, o, by first | rfl | rw [e1], rfl, by go_num, r1, ho, HK2, HST, by omega, by first | trivial | rfl⟩
        case measure => simp [intOf]; omega
    · obtain rfl : k = 0 := by omega
      have HE : Hid (Ech.invN p a = o) := Lib.hid (by rw [HV.out, pwG_0])
      go_wp2
      go_ret
      exact ⟨ret_int (by rw [HE.out]), by first | trivial | rfl⟩
set_option maxRecDepth 100000 in
set_option maxHeartbeats 8000000 in
theorem l08Left_is (p N m : Nat) (hp5 : Ech.fiveP p) (hN0 : 0 < N) (hN : N ≤ 72) (E : Nat → Option (List Int)) (A : List Nat) (hR : Red p N E A) (hm : A.length = m) (hm72 : m ≤ 72) (xs : List Int) (hxl : xs.length = N) (hxb : ∀ k, k < N → I64 (gv xs k))
    (v vo : Value) (vs : Nat → Value) (L U U2 : Nat) (w : World) (hS : Sl w L U v xs) (hO : MixU w U2 vo m vs (fun k => rowE E (A.getD k 0))) :
    Calls Tryd.prog 71 #[v, vo, (.int .i64 ((p : Int)))] w fun e w' => ∃ r ys, e = .returned r ∧ Gr w' w.heap.size r ys ∧ LT8 p N E A (gv xs) ys m ∧ Below w.heap.size w w' := by
  have hp1 : 5 ≤ p ∧ p ≤ 10007 := by rcases hp5 with rfl | rfl | rfl | rfl | rfl <;> omega
  obtain ⟨zU, ad, cap, hv, hc⟩ := hS
  subst hv
  rw [hxl] at hc ⊢
  obtain ⟨g, off, rfl, _, hgU, hcell⟩ := hc hN0
  obtain ⟨zO, ⟨ado, capo, hvo, hco⟩, hrow⟩ := hO
  subst hvo
  have HX := Lib.hid hcell
  have HXB := Lib.hid hxb
  have HRD := Lib.hid hR
  have HO := Lib.hid hco
  have HW := Lib.hid hrow
  have HM := Lib.hid hm
  have hgw : g < w.heap.size := by omega
  clear hc hcell hxb hR hco hrow hxl hp5 hm
  go_enter Tryd.func71, Tryd.ntmps71
  go_wp2
  go_loopw [7, 8] (fun r x wr => ∃ (k : Nat) (ys : List Int), k ≤ N ∧ x = (.int .i64 ((k : Int))) ∧ Gr wr w.heap.size r ys ∧ ys.length = k ∧ Hid (∀ j, j < k → gv ys j = rst (gv xs j) p) ∧ Below w.heap.size w wr) (fun _ x _ => N - (intOf x).toNat)
  case atStart => exact ⟨0, [], Nat.zero_le _, rfl, World.ownsRow_lit w #[] 0 (Nat.le_refl _) (by unfold maxLen; omega) rfl, rfl, Lib.hid (fun j hj => by omega), by repeat (first | with_reducible exact own_refl _ | with_reducible assumption | with_reducible apply own_alloc | with_reducible apply own_drewN | with_reducible apply own_drew | ((with_reducible refine own_setCell ?_ ?_ _); rotate_left; focus (first | (simp; done) | (simp; omega))) | (with_reducible (refine own_trans ?_ (by assumption))))⟩
  case round =>
    obtain ⟨k, ys, hk, rfl, hG, hl, HY, T⟩ := hrel
    obtain ⟨adr, cpr, hv⟩ := hG.shape
    rw [hl] at hv
    subst hv
    have hz := T.size
    by_cases hlt : k < N
    · obtain ⟨x, hx⟩ : ∃ x, gv xs k = x := ⟨_, rfl⟩
      have c0 := (T.cell (p := ⟨g, off + k, none⟩) hgw).trans (HX.out k hlt).1
      rw [show xs.getD k 0 = x from hx] at c0
      have hx64 := HXB.out k hlt
      rw [hx] at hx64
      have HR := Lib.hid (fun w => l01Mod_big x p (by omega) (by omega) hx64 w)
      have HY2 : Hid (∀ j, j < k + 1 → gv (ys ++ [rst x p]) j = rst (gv xs j) p) := Lib.hid fun j hj => by
        unfold gv
        by_cases e : j = k
        · subst e
          rw [List.getD, List.getElem?_append_right (by omega), hl]
          simp
          rw [← hx]
          rfl
        · have := HY.out j (by omega)
          unfold gv at this
          rw [List.getD, List.getElem?_append_left (by omega)]
          exact this
      have HGG := Lib.hid hG
      generalize rst x p = y at *
      clear hx hx64 hG
      go_wp2_with fail
      refine (HR.out _).mono ?_
      rintro e w1 ⟨rfl, rfl⟩
      go_wp2_with (at_builtin; refine app64 rfl _ _ rfl w.heap.size wr (.slice adr k cpr) ys y rfl HGG.out wr.heap.size rfl rfl (by omega) (by omega) ?_; intro v' w2 hG2 hb2)
      go_roundw
      case rel => exact ⟨k + 1, _, by omega, by go_num, hG2, by simp [hl], HY2, T.trans hb2⟩
      case measure => simp [intOf]; omega
    · obtain rfl : N = k := by omega
      have HTI := Lib.hid (LT8.start (E := E) (A := A) (x := gv xs) (show (1 : Int) ≤ (p : Int) by omega) hl (fun j hj => HY.out j hj))
      clear HY
      obtain ⟨go, rfl, hgo, _, _⟩ := hG.cellsZ hN0
      clear hz
      go_wp2
      go_loopw [9] (fun x wr => ∃ (k : Nat) (ys : List Int), k ≤ m ∧ x = (.int .i64 ((k : Int))) ∧ Gr wr w.heap.size (.slice (some ⟨go, 0, none⟩) N cpr) ys ∧ Hid (LT8 p N E A (gv xs) ys k) ∧ Below w.heap.size w wr) (fun x _ => m - (intOf x).toNat)
      case atStart => exact ⟨0, _, Nat.zero_le _, rfl, hG, HTI, T⟩
      case round =>
        clear hG HTI T hl
        obtain ⟨k, ys, hk, rfl, hG, HY, T⟩ := hrel
        by_cases hlt : k < m
        · obtain ⟨gx, rfl, hgx, hcx⟩ := HO.out (by omega)
          have c0 := (T.cell (p := ⟨gx, k, none⟩) (show gx < _ by omega)).trans (hcx k hlt)
          have hkA : k < A.length := by rw [HM.out]; exact hlt
          obtain ⟨a, ha⟩ : ∃ a, A.getD k 0 = a := ⟨_, rfl⟩
          have hmA : a ∈ A := by
            rw [← ha]
            simp only [List.getD, List.getElem?_eq_getElem hkA, Option.getD_some]
            exact List.getElem_mem hkA
          have haN := HRD.out.low a hmA
          have hEa := HRD.out.row hmA
          have h1a := HRD.out.one a hmA
          obtain ⟨e1, e2, _⟩ := HRD.out.rows a haN _ hEa
          obtain ⟨_, ae, ce, hve, hce⟩ := (HW.out k hlt)
          rw [ha] at hve hce
          rw [e1.1] at hve hce
          rw [hve] at c0
          obtain ⟨ge, oe, rfl, _, hgeU, hcee⟩ := hce hN0
          have hgew : ge < w.heap.size := by omega
          have HAT := Lib.hid ha
          have HEC : Hid (∀ q, q < N → w.cell? ⟨ge, oe + q, none⟩ = some (.int .i64 (gv (rowE E a) q))) := Lib.hid fun q hq => (hcee q hq).1
          have HEB := Lib.hid e1
          have HE0 := Lib.hid e2
          have HE1 := Lib.hid h1a
          obtain ⟨y, hy⟩ : ∃ y, gv ys a = y := ⟨_, rfl⟩
          have hyb := HY.out.1.2 a haN
          rw [hy] at hyb
          have HYA := Lib.hid hy
          obtain ⟨cy, _⟩ := hG.at haN
          rw [show ys.getD a 0 = y from hy] at cy
          clear hcx ha hEa h1a e1 e2 hve hce hcee hy hmA
          generalize hre : rowE E a = e at *
          go_wp2
          go_loopw [10] (fun x w2 => ∃ q : Nat, q ≤ a ∧ x = (.int .i64 ((q : Int))) ∧ w2 = wr) (fun x _ => a - (intOf x).toNat)
          case atStart => exact ⟨0, Nat.zero_le _, rfl, by first | trivial | rfl⟩
          case round =>
            obtain ⟨q, hq, rfl, rfl⟩ := hrel
            have cq := (T.cell (p := ⟨ge, oe + q, none⟩) hgew).trans (HEC.out q (by omega))
            by_cases hqa : q < a
            · rw [HE0.out q hqa] at cq
              go_wp2
              go_roundw
              case rel => exact ⟨q + 1, by omega, by go_num, by first | trivial | rfl⟩
              case measure => simp [intOf]; omega
            · obtain rfl : a = q := by omega
              rw [HE1.out] at cq
              by_cases hy0 : y = 0
              · have hy1 : (y != 0) = false := by simp [hy0]
                have HY2 : Hid (LT8 p N E A (gv xs) ys (k + 1)) := Lib.hid (HY.out.skip hkA (by rw [HAT.out, HYA.out]; exact hy0))
                clear hy0
                go_wp2
                refine ⟨⟨k + 1, ys, by omega, by go_num, hG, HY2, T⟩, ?_⟩
                simp [intOf]; omega
              · have hy1 : (y != 0) = true := by simp [hy0]
                clear hy0
                go_wp2
                go_loopw [12] (fun x w2 => ∃ (j : Nat) (zs : List Int), a ≤ j ∧ j ≤ N ∧ x = (.int .i64 ((j : Int))) ∧ Gr w2 w.heap.size (.slice (some ⟨go, 0, none⟩) N cpr) zs ∧ zs.length = N ∧ Hid (∀ q, q < N → gv zs q = if a ≤ q ∧ q < j then rst (gv ys q - y * gv e q) p else gv ys q) ∧ Below w.heap.size w w2) (fun x _ => N - (intOf x).toNat)
                case atStart => exact ⟨a, ys, Nat.le_refl _, by omega, rfl, hG, HY.out.1.1, Lib.hid (fun q _ => by rw [if_neg (by omega)]), T⟩
                case round =>
                  clear hG T cy cq c0
                  obtain ⟨j, zs, hj0, hj, rfl, hG, hzl, HZ, T⟩ := hrel
                  by_cases hjl : j < N
                  · obtain ⟨gx', hxe, hgx', hcx⟩ := HO.out (by omega)
                    injection hxe with hxe
                    injection hxe with hxe
                    subst hxe
                    have c0 := (T.cell (p := ⟨gx, k, none⟩) (show gx < _ by omega)).trans (hcx k hlt)
                    obtain ⟨_, ae, ce', hve, hce⟩ := (HW.out k hlt)
                    rw [HAT.out, hre, HEB.out.1] at hve hce
                    obtain ⟨ge', oe', rfl, _, _, hcee⟩ := hce hN0
                    rw [hve] at c0
                    obtain ⟨c1, f1⟩ := hG.at hjl
                    have hz := HZ.out j hjl
                    rw [if_neg (by omega)] at hz
                    rw [show zs.getD j 0 = gv ys j from hz] at c1
                    have hzb := HY.out.1.2 j hjl
                    have heb := HEB.out.2 j hjl
                    have c2 := (T.cell (p := ⟨ge', oe' + j, none⟩) (show ge' < _ by omega)).trans (hcee j hjl).1
                    obtain ⟨z, hz1⟩ : ∃ z, gv ys j = z := ⟨_, rfl⟩
                    obtain ⟨d, hd⟩ : ∃ d, gv e j = d := ⟨_, rfl⟩
                    rw [hz1] at c1 hzb
                    rw [show e.getD j 0 = d from hd] at c2
                    rw [hd] at heb
                    have m2 := mul_bdP (show 0 ≤ y ∧ y ≤ 10006 by omega) (show 0 ≤ d ∧ d ≤ 10006 by omega)
                    obtain ⟨q2, hq2⟩ : ∃ q2, y * d = q2 := ⟨_, rfl⟩
                    rw [hq2] at m2
                    have hw2 : IntKind.i64.wrap (y * d) = q2 := by rw [hq2]; exact IntWalk.i64_in _ (by omega)
                    have hw3 : IntKind.i64.wrap (z - q2) = z - q2 := IntWalk.i64_in _ (by omega)
                    have HR := Lib.hid (fun w => l01Mod_big (z - q2) p (by omega) (by omega) (by unfold I64; omega) w)
                    have HZ2 : Hid (∀ q, q < N → gv (zs.set j (rst (z - q2) p)) q = if a ≤ q ∧ q < j + 1 then rst (gv ys q - y * gv e q) p else gv ys q) := Lib.hid fun q hq => by
                      by_cases e1 : q = j
                      · subst e1
                        rw [if_pos (by omega), hz1, hd, hq2]
                        simp [gv, List.getD, hzl, hq]
                      · have := HZ.out q hq
                        have e2 : gv (zs.set j (rst (z - q2) p)) q = gv zs q := by simp [gv, List.getD, List.getElem?_set_ne (Ne.symm e1)]
                        rw [e2, this]
                        by_cases e3 : a ≤ q ∧ q < j
                        · rw [if_pos e3, if_pos (by omega)]
                        · rw [if_neg e3, if_neg (by omega)]
                    generalize rst (z - q2) p = t at *
                    have HG2 : Hid (Gr (wr.setCell ⟨go, j, none⟩ (.int .i64 t)).drew w.heap.size (.slice (some ⟨go, 0, none⟩) N cpr) (zs.set j t)) := Lib.hid (by
                      have := Gr.putZ (k := j) (y := t) (show Gr wr w.heap.size (.slice (some ⟨go, 0, none⟩) zs.length cpr) zs by rw [hzl]; exact hG) (by omega)
                      rw [hzl] at this
                      exact this.drew)
                    have HT2 : Hid (Below w.heap.size w (wr.setCell ⟨go, j, none⟩ (.int .i64 t)).drew) := Lib.hid (own_drew (own_setCell T hgo _))
                    clear hq2 hz1 hd hz hG T hcx hve hcee
                    go_wp2_with fail
                    go_region_with
                      (first | (go_at_call 80; refine (HR.out _).mono ?_; rintro e w3 ⟨rfl, rfl⟩))
                    all_goals
                      go_wp2
                      go_roundw
                      case rel => exact ⟨j + 1, _, by omega, by omega, by go_num, HG2.out, by simp [hzl], HZ2, HT2.out⟩
                      case measure => simp [intOf]; omega
                  · obtain rfl : N = j := by omega
                    have HY3 : Hid (LT8 p N E A (gv xs) zs (k + 1)) := Lib.hid (LT8.take (by omega) HRD.out HY.out hkA hzl fun q hq => by
                      rw [HAT.out, HYA.out, hre, HZ.out q hq]
                      by_cases e1 : a ≤ q
                      · rw [if_pos ⟨e1, hq⟩, if_pos e1]
                      · rw [if_neg (by omega), if_neg e1])
                    go_wp2
                    refine ⟨⟨k + 1, zs, by omega, by go_num, hG, HY3, T⟩, ?_⟩
                    simp [intOf]; omega
        · obtain rfl : m = k := by omega
          go_wp2
          go_ret
          exact ⟨_, ys, rfl, hG, HY.out, T⟩
end Go.Proofs.YtejghidllochoaaDoor
/- The model's l08Reduced: contract. -/
namespace Go.Proofs.YtejghidllochoaaDoor
open Go.ChangeShapes Go.WideShapes Go.ChangeAt Go.RowKit
open Ech (Sp Rw Stair)

theorem pwG_lt {p : Nat} (hp : 0 < p) : ∀ (f k a out : Nat), out < p → Ech.pwG p f k a out < p
  | 0, _, _, out, h => h
  | f + 1, k, a, out, h => by
    rw [Ech.pwG]
    split
    · exact h
    · refine pwG_lt hp f _ _ _ ?_
      split
      · exact Nat.mod_lt _ hp
      · exact h
theorem invN_lt {p a : Nat} (hp : 1 < p) : Ech.invN p a < p := pwG_lt (by omega) _ _ _ _ hp
theorem map_rowE {E : Nat → Option (List Int)} {A : List Nat} {a : Nat} {zs : List Int} (hA : a ∉ A) : (A ++ [a]).map (rowE (upd E a zs)) = A.map (rowE E) ++ [zs] := by
  rw [List.map_append]
  congr 1
  · refine List.map_congr_left fun b hb => ?_
    unfold rowE upd
    rw [if_neg (fun h => hA (by rw [← h]; exact hb))]
  · simp [rowE, upd]
theorem map_getE {E : Nat → Option (List Int)} {A : List Nat} {k : Nat} (h : k < A.length) : (A.map (rowE E)).getD k [] = rowE E (A.getD k 0) := by
  simp [List.getD, List.getElem?_eq_getElem h]
theorem Red.len {p : Int} {N : Nat} {E : Nat → Option (List Int)} {A : List Nat} (h : Red p N E A) : A.length ≤ N := by
  have := h.nodup.length_le_of_subset (l₂ := List.range N) fun a ha => List.mem_range.2 (h.low a ha)
  simpa using this
set_option maxRecDepth 100000 in
set_option maxHeartbeats 8000000 in
theorem l08Reduced_is (n : Int) (p N M : Nat) (hp5 : Ech.fiveP p) (hN0 : 0 < N) (hN : N ≤ 72) (hM : M ≤ 144) (hxb : ∀ j k, j < M → I64 (gv (rel n N j) k)) (v : Value) (vs : Nat → Value) (U : Nat) (w : World) (hO : MixU w U v M vs (rel n N)) :
    Calls Tryd.prog 42 #[v, (.int .i64 ((p : Int)))] w fun e w' => ∃ r rs E A, e = .returned r ∧ GrW w' w.heap.size r rs (A.map (rowE E)) ∧ Red p N E A ∧ SPAN p n N M E ∧ Below w.heap.size w w' := by
  have hp1 : 5 ≤ p ∧ p ≤ 10007 := by rcases hp5 with rfl | rfl | rfl | rfl | rfl <;> omega
  obtain ⟨zO, ⟨ado, capo, hvo, hco⟩, hrow⟩ := hO
  subst hvo
  have HXB := Lib.hid hxb
  have HO := Lib.hid hco
  have HW := Lib.hid hrow
  have HP := Lib.hid hp5
  clear hxb hco hrow hp5
  go_enter Tryd.func42, Tryd.ntmps42
  go_wp2
  go_loopw [5, 6] (fun r x wr => ∃ (i : Nat) (rs : List Value) (E : Nat → Option (List Int)) (A : List Nat), i ≤ M ∧ x = (.int .i64 ((i : Int))) ∧ GrW wr w.heap.size r rs (A.map (rowE E)) ∧ Hid (Red p N E A) ∧ Hid (SPAN p n N i E) ∧ Below w.heap.size w wr) (fun _ x _ => M - (intOf x).toNat)
  case atStart => exact ⟨0, [], _, [], Nat.zero_le _, rfl, GrW.lit rfl (Nat.le_refl _), Lib.hid (Red.start _ _), Lib.hid (SPAN.start _ _ _), by repeat (first | with_reducible exact own_refl _ | with_reducible assumption | with_reducible apply own_alloc | with_reducible apply own_drewN | with_reducible apply own_drew | ((with_reducible refine own_setCell ?_ ?_ _); rotate_left; focus (first | (simp; done) | (simp; omega))) | (with_reducible (refine own_trans ?_ (by assumption))))⟩
  case round =>
    obtain ⟨wo, hwo⟩ : ∃ wo, wo = wr := ⟨_, rfl⟩
    subst hwo
    obtain ⟨i, rs, E, A, hi, rfl, hG, HR, HS, T⟩ := hrel
    obtain ⟨adr, cpr, hv⟩ := hG.shape
    rw [List.length_map] at hv
    have hAl := HR.out.len
    obtain ⟨m, hm⟩ : ∃ m, A.length = m := ⟨_, rfl⟩
    have HAM := Lib.hid hm
    rw [hm] at hv hAl
    subst hv
    by_cases hlt : i < M
    · obtain ⟨gx, rfl, hgx, hcx⟩ := HO.out (by omega)
      have c0 := (T.cell (p := ⟨gx, i, none⟩) (show gx < _ by omega)).trans (hcx i hlt)
      have hrow := (HW.out i hlt).own T
      have hMX := hG.mixU (m := m) (f := fun k => rowE E (A.getD k 0)) (by rw [List.length_map]; exact hm) (fun k hk => map_getE (by omega))
      have HL := Lib.hid (l08Left_is p N m HP.out hN0 hN E A HR.out hm (by omega) (rel n N i) (rel_len n N i) (fun k _ => HXB.out i k hlt) _ _ _ _ _ _ wo hrow hMX)
      have HGG := Lib.hid hG
      generalize vs i = vr at *
      clear hcx hrow hMX hG hm
      go_wp2_with fail
      refine HL.out.mono ?_
      rintro e w2 ⟨r, ys, rfl, G2, hLT, hb2⟩
      have HLT := Lib.hid hLT
      obtain ⟨ad2, cp2, hv2⟩ := G2.shape
      rw [hLT.1.1] at hv2
      subst hv2
      obtain ⟨go, rfl, hgo, -, -⟩ := G2.cellsZ hN0
      have T2 := own_trans T hb2
      clear hLT
      go_wp2
      go_loopw [8] (fun x w3 => ∃ q : Nat, q ≤ N ∧ x = (.int .i64 ((q : Int))) ∧ w3 = w2 ∧ Hid (∀ j, j < q → gv ys j = 0)) (fun x _ => N - (intOf x).toNat)
      case atStart => exact ⟨0, Nat.zero_le _, rfl, by first | trivial | rfl, Lib.hid (fun j hj => by omega)⟩
      case round =>
        obtain ⟨q, hq, rfl, rfl, HZ⟩ := hrel
        by_cases hqN : q < N
        · obtain ⟨y, hy⟩ : ∃ y, gv ys q = y := ⟨_, rfl⟩
          obtain ⟨cq, _⟩ := G2.at hqN
          rw [show ys.getD q 0 = y from hy] at cq
          have hyb := HLT.out.1.2 q hqN
          rw [hy] at hyb
          by_cases hy0 : y = 0
          · have hy1 : (y == 0) = true := by simp [hy0]
            have HZ2 : Hid (∀ j, j < q + 1 → gv ys j = 0) := Lib.hid fun j hj => by
              rcases (show j = q ∨ j < q by omega) with rfl | h
              · rw [hy]; exact hy0
              · exact HZ.out j h
            clear hy hy0
            go_wp2
            go_roundw
            case rel => exact ⟨q + 1, by omega, by go_num, by first | trivial | rfl, HZ2⟩
            case measure => simp [intOf]; omega
          · have hy1 : (y == 0) = false := by simp [hy0]
            obtain ⟨ny, rfl⟩ : ∃ ny : Nat, y = (ny : Int) := ⟨y.toNat, by omega⟩
            have HY := Lib.hid hy
            have HY0 := Lib.hid hy0
            clear hy hy0
            have hqA : q ∉ A := fun h => HY0.out (by rw [← HY.out]; exact HLT.out.2.1 q (by rw [← HAM.out, List.take_length]; exact h))
            have hny : 0 < ny := by
              rcases Nat.eq_zero_or_pos ny with h | h
              · exact absurd (by rw [h]; rfl) HY0.out
              · exact h
            have HINV := Lib.hid (fun w => l08Inverse_is p ny HP.out (by omega) w)
            have HDV := Lib.hid (Ech.invI_is HP.out hny (by omega))
            have hib := invN_lt (p := p) (a := ny) (by omega)
            generalize Ech.invN p ny = u at *
            go_wp2_with fail
            refine (HINV.out _).mono ?_
            rintro e w3 ⟨rfl, rfl⟩
            have Tw := hb2
            go_wp2
            go_loopw [10] (fun x w4 => ∃ (j : Nat) (zs : List Int), j ≤ N ∧ x = (.int .i64 ((j : Int))) ∧ Gr w4 wo.heap.size (.slice (some ⟨go, 0, none⟩) N cp2) zs ∧ zs.length = N ∧ Hid (∀ k, k < N → gv zs k = if k < j then gv ys k * u % p else gv ys k) ∧ Below wo.heap.size wo w4) (fun x _ => N - (intOf x).toNat)
            case atStart => exact ⟨0, ys, Nat.zero_le _, rfl, G2, HLT.out.1.1, Lib.hid (fun k _ => by rw [if_neg (by omega)]), Tw⟩
            case round =>
              clear G2 hb2 Tw cq T2
              obtain ⟨j, zs, hj, rfl, hG4, hzl, HZZ, T4⟩ := hrel
              by_cases hjN : j < N
              · obtain ⟨cj, fj⟩ := hG4.at hjN
                have hz := HZZ.out j hjN
                rw [if_neg (by omega)] at hz
                rw [show zs.getD j 0 = gv ys j from hz] at cj
                have hcb := HLT.out.1.2 j hjN
                obtain ⟨c, hc⟩ : ∃ c, gv ys j = c := ⟨_, rfl⟩
                rw [hc] at cj hcb
                have m1 := mul_bdP (show 0 ≤ c ∧ c ≤ 10006 by omega) (show 0 ≤ (u : Int) ∧ (u : Int) ≤ 10006 by omega)
                obtain ⟨q1, hq1⟩ : ∃ q1, c * (u : Int) = q1 := ⟨_, rfl⟩
                rw [hq1] at m1
                obtain ⟨_, _⟩ := m1
                have hw1 : IntKind.i64.wrap (c * (u : Int)) = q1 := by rw [hq1]; exact IntWalk.i64_in _ (by omega)
                have hpne : ¬ (p : Int) = 0 := by omega
                have HZ3 : Hid (∀ k, k < N → gv (zs.set j (q1 % p)) k = if k < j + 1 then gv ys k * u % p else gv ys k) := Lib.hid fun k hk => by
                  by_cases e1 : k = j
                  · subst e1
                    rw [if_pos (by omega), hc, hq1]
                    simp [gv, List.getD, hzl, hk]
                  · have := HZZ.out k hk
                    have e2 : gv (zs.set j (q1 % p)) k = gv zs k := by simp [gv, List.getD, List.getElem?_set_ne (Ne.symm e1)]
                    rw [e2, this]
                    by_cases e3 : k < j
                    · rw [if_pos e3, if_pos (by omega)]
                    · rw [if_neg e3, if_neg (by omega)]
                have HG5 : Hid (Gr (wr.setCell ⟨go, j, none⟩ (.int .i64 (q1 % p))) wo.heap.size (.slice (some ⟨go, 0, none⟩) N cp2) (zs.set j (q1 % p))) := Lib.hid (by
                  have := Gr.putZ (k := j) (y := q1 % p) (show Gr wr wo.heap.size (.slice (some ⟨go, 0, none⟩) zs.length cp2) zs by rw [hzl]; exact hG4) (by omega)
                  rwa [hzl] at this)
                have HT5 : Hid (Below wo.heap.size wo (wr.setCell ⟨go, j, none⟩ (.int .i64 (q1 % p)))) := Lib.hid (own_setCell T4 hgo _)
                clear hq1 hc hz hG4 T4
                go_wp2
                go_roundw
                case rel => exact ⟨j + 1, _, by omega, by go_num, HG5.out, by simp [hzl], HZ3, HT5.out⟩
                case measure => simp [intOf]; omega
              · obtain rfl : N = j := by omega
                obtain ⟨m1, m2, m3, m4, m5⟩ := Red.more HP.out HR.out (by rw [HAM.out]; exact HLT.out) hqN (fun k hk => HZ.out k hk) (by rw [HY.out]; exact HY0.out) (by rw [HY.out]; exact HDV.out) hzl (fun k hk => by rw [HZZ.out k hk, if_pos hk])
                have HR2 := Lib.hid m1
                have HS2 := Lib.hid (HS.out.more hqN m5 m4 m2)
                have hX := HGG.out.own T4
                have hzz := T4.size
                have hrl : rs.length = m := by rw [HGG.out.2.1, List.length_map]; exact HAM.out
                have hXr := hX.1
                rw [hrl] at hXr
                have hXa := hX.own (own_alloc (own_refl wr) (.cells #[.slice (some ⟨go, 0, none⟩) N cp2] 31))
                have hXar := hXa.1
                rw [hrl] at hXar
                have hzw := T.size
                have hGa := ownsRow_weakZ (hG4.alloc (.cells #[.slice (some ⟨go, 0, none⟩) N cp2] 31)) hzw
                clear m1 m2 m3 m4 m5
                go_upto_region 15 with fail
                go_wp2_with (at_builtin; refine appRowAt (L := w.heap.size) (v := .slice adr m cpr) (n := m) (vs := rs) (us := [.slice (some ⟨go, 0, none⟩) N cp2]) (m := 1) (c := 1) (g := wr.heap.size) (by rfl) _ _ (by rfl) _ (by rfl) hXar (by rfl) rfl (cell1 _ _ _) one1 (by omega) (by simp; omega) ?_; intro v9 w9 hR9 hg9 hat9 hb9)
                have hX9 : GrW w9 w.heap.size v9 (rs ++ [.slice (some ⟨go, 0, none⟩) N cp2]) ((A ++ [q]).map (rowE (upd E q zs))) := by
                  rw [map_rowE hqA]
                  exact hXa.snoc hGa (by rw [hrl]; exact hR9) hg9
                refine ⟨⟨i + 1, _, _, _, by omega, by go_num, hX9, HR2, HS2, (own_alloc (own_trans T T4) _).trans hb9⟩, ?_⟩
                simp [intOf]; omega
        · obtain rfl : N = q := by omega
          have HS2 := Lib.hid (Red.same HS.out (by rw [HAM.out]; exact HLT.out) (fun k hk => HZ.out k hk))
          have hX := HGG.out.own hb2
          go_wp2
          refine ⟨⟨i + 1, rs, E, A, by omega, by go_num, hX, HR, HS2, T2⟩, ?_⟩
          simp [intOf]; omega
    · obtain rfl : M = i := by omega
      go_wp2
      go_ret
      exact ⟨_, rs, E, A, rfl, hG, HR.out, HS.out, T⟩
end Go.Proofs.YtejghidllochoaaDoor
/- Ranks are equal, and lists go alike, however the rows were made. -/
namespace Go.Proofs.YtejghidllochoaaDoor
open Go.ChangeShapes Go.WideShapes Go.ChangeAt Go.RowKit
open Ech (Sp Rw Stair)

def dE (E : Nat → Option (List Int)) (i : Nat) : Prop := (E i).isSome = true
def eE (E : Nat → Option (List Int)) (i : Nat) : Nat → Int := gv (rowE E i)
theorem RE_iff {N : Nat} {E : Nat → Option (List Int)} {r : Nat → Int} : RE N E r ↔ Rw N (dE E) (eE E) r := by
  constructor
  · rintro ⟨i, hi, xs, h, rfl⟩
    exact ⟨i, hi, by unfold dE; rw [h]; rfl, by unfold eE rowE; rw [h]; rfl⟩
  · rintro ⟨i, hi, hd, rfl⟩
    unfold dE at hd
    rcases h : E i with _ | xs
    · rw [h] at hd; cases hd
    · exact ⟨i, hi, xs, h, by unfold eE rowE; rw [h]; rfl⟩
theorem not_dvd {p x : Int} (h0 : 0 ≤ x) (h1 : x < p) (h : x ≠ 0) : ¬ p ∣ x := fun ⟨c, hc⟩ => by
  rcases (show c ≤ 0 ∨ 1 ≤ c by omega) with h2 | h2
  · have := Int.mul_nonneg (show 0 ≤ p by omega) (show 0 ≤ -c by omega)
    rw [Int.mul_neg] at this
    omega
  · have := Int.mul_le_mul_of_nonneg_left h2 (show 0 ≤ p by omega)
    omega
theorem Rows8.stair {p : Int} {N : Nat} {E : Nat → Option (List Int)} (h : Rows8 p N E) : Stair p N (dE E) (eE E) := by
  intro i hi hd
  unfold dE at hd
  rcases hE : E i with _ | xs
  · rw [hE] at hd; cases hd
  · obtain ⟨h1, h2, h3⟩ := h i hi xs hE
    have e : eE E i = gv xs := by unfold eE rowE; rw [hE]; rfl
    rw [e]
    exact ⟨fun k hk => by rw [h2 k hk]; exact ⟨0, by simp⟩, not_dvd (h1.2 i hi).1 (h1.2 i hi).2 h3⟩
theorem SPAN.into {p n : Int} {N M : Nat} {E : Nat → Option (List Int)} (h : SPAN p n N M E) {x : Nat → Int} (hx : Sp p N (RL n N M) x) : Sp p N (RE N E) x :=
  hx.trans fun _ ⟨j, hj, e⟩ => e ▸ h.2.2 j hj
theorem SPAN.back {p n : Int} {N M : Nat} {E : Nat → Option (List Int)} (h : SPAN p n N M E) {x : Nat → Int} (hx : Sp p N (RE N E) x) : Sp p N (RL n N M) x := hx.trans h.2.1
theorem leads_in {p : Nat} (hp5 : Ech.fiveP p) {n : Int} {N M : Nat} {E E' : Nat → Option (List Int)} (h : SPAN p n N M E) (h' : SPAN p n N M E') {i : Nat} (hi : i < N) (hd : dE E i) : dE E' i :=
  Ech.leads (Ech.prime_of hp5) h.1.stair h'.1.stair (fun r hr => (h'.into (h.2.1 r (RE_iff.2 hr))).mono fun _ hq => RE_iff.1 hq) hi hd
theorem cntE_filter (E : Nat → Option (List Int)) : ∀ k : Nat, cntE E k = ((List.range k).filter fun i => (E i).isSome).length
  | 0 => rfl
  | k + 1 => by
    rw [cntE, cntE_filter E k, List.range_succ, List.filter_append, List.length_append]
    by_cases h : (E k).isSome = true
    · simp [h]
    · simp [h]
theorem rank_same {p : Nat} (hp5 : Ech.fiveP p) {n : Int} {N M : Nat} {E E' : Nat → Option (List Int)} {A : List Nat} (h : SPAN p n N M E) (h' : SPAN p n N M E') (hR : Red p N E' A) : cntE E N = A.length := by
  rw [cntE_filter]
  refine Ech.len_same (List.nodup_range.filter _) hR.nodup fun i => ?_
  rw [List.mem_filter, List.mem_range, hR.has i]
  constructor
  · rintro ⟨hi, hd⟩
    exact leads_in hp5 h h' hi hd
  · intro hd
    have hi := hR.low i ((hR.has i).2 hd)
    exact ⟨hi, leads_in hp5 h' h hi hd⟩
/-- the list is a sum of multiples of relations -/
def GO (p n : Int) (N M : Nat) (x : Nat → Int) : Prop := Sp p N (RL n N M) x
theorem Sp.drop1 {p : Int} {N : Nat} {R : (Nat → Int) → Prop} {x y : Nat → Int} (hy : Sp p N R y) (h : Sp p N (with1 R y) x) : Sp p N R x :=
  h.trans fun _ hr => by
    rcases hr with hr | rfl
    · exact Sp.mem hr
    · exact hy
/-- what the program finds -/
theorem TK.goes {p : Nat} (hp5 : Ech.fiveP p) {n : Int} {N M first : Nat} {E : Nat → Option (List Int)} {x : Nat → Int} {ys : List Int} (h : SPAN p n N M E) (ht : TK p N E x ys first) : first = N ↔ GO p n N M x := by
  obtain ⟨t1, ⟨t2, t3, t4, t5⟩, t6⟩ := ht
  constructor
  · rintro rfl
    exact h.back (Sp.drop1 (.zero _ fun k hk => by rw [t3 k hk hk]; exact ⟨0, by simp⟩) t5)
  · intro hg
    apply Classical.byContradiction
    intro hne
    obtain ⟨h0, hE⟩ := t6 (by omega)
    have hys : Sp p N (RE N E) (gv ys) := Sp.drop1 (h.into hg) t4
    have := Ech.lead (Ech.prime_of hp5) h.1.stair (hys.mono fun _ hq => RE_iff.1 hq) (show first < N by omega) (fun k hk => by rw [t3 k hk (by omega)]; exact ⟨0, by simp⟩) (by unfold dE; rw [hE]; simp)
    exact not_dvd (t2.2 first (by omega)).1 (t2.2 first (by omega)).2 h0 this
/-- what the model finds -/
theorem LT8.goes {p : Nat} (hp5 : Ech.fiveP p) {n : Int} {N M : Nat} {E : Nat → Option (List Int)} {A : List Nat} {x : Nat → Int} {ys : List Int} (h : SPAN p n N M E) (hR : Red p N E A) (ht : LT8 p N E A x ys A.length) : (∀ k, k < N → gv ys k = 0) ↔ GO p n N M x := by
  obtain ⟨t2, t3, t4, t5⟩ := ht
  rw [List.take_length] at t3
  constructor
  · intro h0
    exact h.back (Sp.drop1 (.zero _ fun k hk => by rw [h0 k hk]; exact ⟨0, by simp⟩) t5)
  · intro hg k hk
    have hys : Sp p N (RE N E) (gv ys) := Sp.drop1 (h.into hg) t4
    have := Ech.gone (Ech.prime_of hp5) h.1.stair (hys.mono fun _ hq => RE_iff.1 hq) (fun i hi hd => by rw [t3 i ((hR.has i).2 hd)]; exact ⟨0, by simp⟩) k hk
    apply Classical.byContradiction
    intro h0
    exact not_dvd (t2.2 k hk).1 (t2.2 k hk).2 h0 this
theorem lpC_of {n : Int} {p : Nat} (hlv : lvC n = 0) (hp5 : Ech.fiveP p) : lpC n p = 0 := by
  unfold lpC
  rw [if_pos (by rcases hp5 with rfl | rfl | rfl | rfl | rfl <;> rfl)]
  exact hlv
/-- What the model's rows are, as a call leaves them. -/
theorem reduced_is (n : Int) (p N : Nat) (hlv : lvC n = 0) (hp5 : Ech.fiveP p) (hN : (ln n).length = N) (U : Nat) (v : Value) (vs : Nat → Value) (w : World) (hO : MixU w U v (N + N) vs (rel n N)) :
    Calls Tryd.prog 42 #[v, (.int .i64 ((p : Int)))] w fun e w' => ∃ r rs E A, e = .returned r ∧ GrW w' w.heap.size r rs (A.map (rowE E)) ∧ Red p N E A ∧ SPAN p n N (N + N) E ∧ Below w.heap.size w w' := by
  obtain ⟨_, _, h3, h4⟩ := relN hlv
  rw [hN] at h3 h4
  exact l08Reduced_is n p N (N + N) hp5 h4 h3 (by omega) (fun j k hj => rel_i64 hlv hN hj) v vs U w hO
theorem relations_is (n : Int) (hlv : lvC n = 0) (N : Nat) (hN : (ln n).length = N) (v : Value) (L : Nat) (w : World) (hG : GrSS w L v (prs (ln n))) :
    Calls Tryd.prog 33 #[(.int .i64 n), v] w fun e w' => ∃ v' vs, e = .returned v' ∧ MixU w' w'.heap.size v' (N + N) vs (rel n N) ∧ Below w.heap.size w w' := by
  obtain ⟨h1, h2, h3, h4⟩ := relN hlv
  rw [hN] at h3 h4
  refine (l08Relations_is n h1 h2 N hN h3 h4 v L w hG).mono ?_
  rintro e w' ⟨v', vs, rfl, hG', hb⟩
  exact ⟨v', _, rfl, hG'.mixU (by simp [relSs_len, relUs_len]) (fun j hj => rels_at n N j hj), hb⟩
end Go.Proofs.YtejghidllochoaaDoor
