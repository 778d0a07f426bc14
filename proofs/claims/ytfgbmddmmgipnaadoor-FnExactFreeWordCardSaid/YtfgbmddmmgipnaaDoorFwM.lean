/- Free words: mathematics alone (a word as data, its matrix, its length). -/
import Derived.Test.YtfgbmddmmgipnaaDoorFl
import Derived.Test.YtfgbmddmmgipnaaDoorRunM
import Derived.Test.YtfgbmddmmgipnaaDoorSpl
import Derived.Test.YtfgbmddmmgipnaaDoorPwM
namespace Go.Proofs.YtfgbmddmmgipnaaDoor
open Go.ChangeShapes Go.WideShapes Go.ChangeAt Go.RowKit

/-- A matrix. -/
structure M4 where
  a : Int
  b : Int
  c : Int
  d : Int
def M4.neg (m : M4) : M4 := ⟨-m.a, -m.b, -m.c, -m.d⟩
def M4.mul (m n : M4) : M4 := ⟨m.a * n.a + m.b * n.c, m.a * n.b + m.b * n.d, m.c * n.a + m.d * n.c, m.c * n.b + m.d * n.d⟩
/-- alike but for the sign -/
def Eqs (m n : M4) : Prop := m = n ∨ m = n.neg
theorem M4.neg_neg (m : M4) : m.neg.neg = m := by simp [M4.neg]
theorem Eqs.refl (m : M4) : Eqs m m := .inl rfl
theorem Eqs.trans {m n k : M4} (h : Eqs m n) (h' : Eqs n k) : Eqs m k := by
  rcases h with rfl | rfl
  · exact h'
  · rcases h' with rfl | rfl
    · exact .inr rfl
    · exact .inl (M4.neg_neg k)
theorem Eqs.symm {m n : M4} (h : Eqs m n) : Eqs n m := by
  rcases h with rfl | rfl
  · exact .inl rfl
  · exact .inr (M4.neg_neg n).symm
theorem Eqs.congr {f : M4 → M4} (hf : ∀ m, f m.neg = (f m).neg) {m n : M4} (h : Eqs m n) : Eqs (f m) (f n) := by
  rcases h with rfl | rfl
  · exact .inl rfl
  · exact .inr (hf n)

/-- A free word: its pairs U S (true) and V S (false), the last one ahead; whether it begins with S; a last letter without its S. -/
structure FW where
  p : List Bool
  e : Bool
  h : Option Bool
/-- the letter of a pair -/
def tl (t : Bool) : UInt8 := if t then 85 else 86
def mU (m : M4) : M4 := ⟨m.a + m.b, -m.a, m.c + m.d, -m.c⟩
def mV (m : M4) : M4 := ⟨m.b, -m.a - m.b, m.d, -m.c - m.d⟩
def mS (m : M4) : M4 := ⟨m.b, -m.a, m.d, -m.c⟩
def mX (t : Bool) (m : M4) : M4 := if t then mU m else mV m
/-- S ahead -/
def sM (m : M4) : M4 := ⟨-m.c, -m.d, m.a, m.b⟩
def FW.putS : FW → FW
  | ⟨p, e, some t⟩ => ⟨t :: p, e, none⟩
  | ⟨t :: p, e, none⟩ => ⟨p, e, some t⟩
  | ⟨[], e, none⟩ => ⟨[], !e, none⟩
def FW.putX (x : Bool) : FW → FW
  | ⟨p, e, none⟩ => ⟨p, e, some x⟩
  | ⟨p, e, some t⟩ => if t = x then ⟨p, e, some (!x)⟩ else ⟨p, e, none⟩
/-- The matrix of pairs. -/
def Pm : List Bool → M4
  | [] => ⟨1, 0, 0, 1⟩
  | true :: r => ⟨(Pm r).a, (Pm r).a + (Pm r).b, (Pm r).c, (Pm r).c + (Pm r).d⟩
  | false :: r => ⟨(Pm r).a + (Pm r).b, (Pm r).b, (Pm r).c + (Pm r).d, (Pm r).d⟩
def sE (e : Bool) (m : M4) : M4 := if e then sM m else m
def FW.mt (f : FW) : M4 := match f.h with
  | none => sE f.e (Pm f.p)
  | some t => mX t (sE f.e (Pm f.p))

theorem mS_neg (m : M4) : mS m.neg = (mS m).neg := by simp [mS, M4.neg]
theorem mX_neg (t : Bool) (m : M4) : mX t m.neg = (mX t m).neg := by
  cases t <;> simp [mX, mU, mV, M4.neg] <;> omega
theorem put_S (f : FW) : Eqs (f.putS).mt (mS f.mt) := by
  obtain ⟨p, e, h⟩ := f
  rcases h with _ | t
  · rcases p with _ | ⟨t, p⟩
    · cases e
      · exact .inl (by simp [FW.putS, FW.mt, sE, Pm, mS, sM])
      · exact .inr (by simp [FW.putS, FW.mt, sE, Pm, mS, sM, M4.neg])
    · refine .inl ?_
      cases t <;> cases e <;> simp [FW.putS, FW.mt, sE, Pm, mS, mX, mU, mV, sM] <;> omega
  · refine .inr ?_
    cases t <;> cases e <;> simp [FW.putS, FW.mt, sE, Pm, mS, mX, mU, mV, sM, M4.neg] <;> omega
theorem put_X (x : Bool) (f : FW) : Eqs (f.putX x).mt (mX x f.mt) := by
  obtain ⟨p, e, h⟩ := f
  rcases h with _ | t
  · exact .inl rfl
  · have key : ∀ m : M4, Eqs (match (if t = x then some (!x) else none : Option Bool) with | none => m | some y => mX y m) (mX x (mX t m)) := by
      rintro ⟨a, b, c, d⟩
      cases t <;> cases x <;> simp [Eqs, mX, mU, mV, M4.neg] <;> omega
    have h1 := key (sE e (Pm p))
    cases t <;> cases x <;> exact h1

/-- U S so often -/
def FW.us : FW → Nat → FW
  | f, 0 => f
  | f, n + 1 => FW.us ((f.putX true).putS) n
/-- S V so often -/
def FW.sv : FW → Nat → FW
  | f, 0 => f
  | f, n + 1 => FW.sv ((f.putS).putX false) n
def FW.step (f : FW) (q : Int) : FW := if 0 ≤ q then f.us q.toNat else f.sv (-q).toNat
/-- times a power of T -/
def mT (m : M4) (q : Int) : M4 := ⟨m.a, q * m.a + m.b, m.c, q * m.c + m.d⟩
theorem mT_neg (q : Int) (m : M4) : mT m.neg q = (mT m q).neg := by
  simp only [mT, M4.neg, M4.mk.injEq]
  refine ⟨by first | rfl | trivial, ?_, by first | rfl | trivial, ?_⟩ <;> grind
theorem us_mt (n : Nat) : ∀ f : FW, Eqs (f.us n).mt (mT f.mt n) := by
  induction n with
  | zero => intro f; refine .inl ?_; simp [FW.us, mT]
  | succ n ih =>
    intro f
    refine (ih _).trans ?_
    have h1 : Eqs ((f.putX true).putS).mt (mS (mX true f.mt)) := (put_S _).trans (Eqs.congr mS_neg (put_X true f))
    refine (Eqs.congr (f := fun m => mT m n) (fun m => mT_neg _ m) h1).trans (.inr ?_)
    simp only [mT, mS, mX, mU, M4.neg, M4.mk.injEq, if_true]
    refine ⟨by first | rfl | trivial, ?_, by first | rfl | trivial, ?_⟩ <;> grind
theorem sv_mt (n : Nat) : ∀ f : FW, Eqs (f.sv n).mt (mT f.mt (-n)) := by
  induction n with
  | zero => intro f; refine .inl ?_; simp [FW.sv, mT]
  | succ n ih =>
    intro f
    refine (ih _).trans ?_
    have h1 : Eqs ((f.putS).putX false).mt (mX false (mS f.mt)) := (put_X false _).trans (Eqs.congr (mX_neg false) (put_S f))
    refine (Eqs.congr (f := fun m => mT m (-n)) (fun m => mT_neg _ m) h1).trans (.inr ?_)
    simp only [mT, mS, mX, mV, M4.neg, M4.mk.injEq, Bool.false_eq_true, if_false]
    refine ⟨by first | rfl | trivial, ?_, by first | rfl | trivial, ?_⟩ <;> grind
theorem step_mt (f : FW) (q : Int) : Eqs (f.step q).mt (mT f.mt q) := by
  unfold FW.step
  split
  · have := us_mt q.toNat f
    rwa [Int.toNat_of_nonneg (by assumption)] at this
  · have := sv_mt (-q).toNat f
    rwa [Int.toNat_of_nonneg (by omega), Int.neg_neg] at this

/-- The numbers of a chain, taken one after another; ahead of each but the first comes S. -/
def FW.goQ : FW → List Int → FW
  | f, [] => f
  | f, [q] => f.step q
  | f, q :: r => FW.goQ (f.step q).putS r
def FW.one : FW := ⟨[], false, none⟩
def frW (l : List Int) : FW := FW.one.goQ l
theorem goQ_cons (f : FW) (q : Int) {r : List Int} (h : r ≠ []) : f.goQ (q :: r) = FW.goQ (f.step q).putS r := by
  cases r with
  | nil => exact absurd rfl h
  | cons x r => rfl

/-- how long a word is -/
def FW.len (f : FW) : Nat := 2 * f.p.length + (if f.e then 1 else 0) + (if f.h.isSome then 1 else 0)
theorem us_none (n : Nat) : ∀ (p : List Bool) (e : Bool), FW.us ⟨p, e, none⟩ n = ⟨List.replicate n true ++ p, e, none⟩ := by
  induction n with
  | zero => intro p e; rfl
  | succ n ih =>
    intro p e
    show FW.us ⟨true :: p, e, none⟩ n = _
    rw [ih, List.replicate_succ']
    simp
theorem sv_some (n : Nat) : ∀ (p : List Bool) (e x : Bool), FW.sv ⟨p, e, some x⟩ (n + 1) = ⟨List.replicate n false ++ x :: p, e, some false⟩ := by
  induction n with
  | zero => intro p e x; rfl
  | succ n ih =>
    intro p e x
    show FW.sv ⟨x :: p, e, some false⟩ (n + 1) = _
    rw [ih, List.replicate_succ']
    simp
/-- How a word ends behind a number that is not small. -/
def FW.E (f : FW) : Prop := (∃ p e, f = ⟨true :: p, e, none⟩) ∨ (∃ p e, f = ⟨p, e, some false⟩) ∨ f = FW.one
theorem us_E {p : List Bool} {e : Bool} {n : Nat} (h : 0 < n) : FW.E (FW.us ⟨p, e, none⟩ n) := by
  obtain ⟨k, rfl⟩ : ∃ k, n = k + 1 := ⟨n - 1, by omega⟩
  rw [us_none]
  exact .inl ⟨_, _, rfl⟩
theorem sv_E {p : List Bool} {e x : Bool} {n : Nat} (h : 0 < n) : FW.E (FW.sv ⟨p, e, some x⟩ n) := by
  obtain ⟨k, rfl⟩ : ∃ k, n = k + 1 := ⟨n - 1, by omega⟩
  rw [sv_some]
  exact .inr (.inl ⟨_, _, rfl⟩)
theorem us_len (p : List Bool) (e : Bool) (n : Nat) : (FW.us ⟨p, e, none⟩ n).len = 2 * n + 2 * p.length + (if e then 1 else 0) := by
  rw [us_none]; simp [FW.len]; omega
theorem sv_len (p : List Bool) (e x : Bool) (n : Nat) (h : 0 < n) : (FW.sv ⟨p, e, some x⟩ n).len = 2 * n + 2 * p.length + (if e then 1 else 0) + 1 := by
  obtain ⟨k, rfl⟩ : ∃ k, n = k + 1 := ⟨n - 1, by omega⟩
  rw [sv_some]; simp [FW.len]; omega
theorem step_len {f : FW} (h : f.E) (q : Int) : f.len + 2 * q.natAbs ≤ (f.putS.step q).len + 2 ∧ (2 ≤ q.natAbs → (f.putS.step q).E) := by
  rcases h with ⟨p, e, rfl⟩ | ⟨p, e, rfl⟩ | rfl
  · show _ ≤ (FW.step ⟨p, e, some true⟩ q).len + 2 ∧ (_ → (FW.step ⟨p, e, some true⟩ q).E)
    unfold FW.step
    split
    · rcases Nat.eq_zero_or_pos q.toNat with h0 | h0
      · rw [h0]
        refine ⟨?_, fun h => by omega⟩
        show _ ≤ (FW.mk p e (some true)).len + 2
        simp [FW.len]; omega
      · obtain ⟨k, hk⟩ : ∃ k, q.toNat = k + 1 := ⟨q.toNat - 1, by omega⟩
        rw [hk]
        show _ ≤ (FW.us ⟨false :: p, e, none⟩ k).len + 2 ∧ (_ → (FW.us ⟨false :: p, e, none⟩ k).E)
        refine ⟨?_, fun h => us_E (by omega)⟩
        rw [us_len]
        simp [FW.len]; omega
    · refine ⟨?_, fun _ => sv_E (by omega)⟩
      rw [sv_len _ _ _ _ (by omega)]
      simp [FW.len]; omega
  · show _ ≤ (FW.step ⟨false :: p, e, none⟩ q).len + 2 ∧ (_ → (FW.step ⟨false :: p, e, none⟩ q).E)
    unfold FW.step
    split
    · refine ⟨?_, fun h => us_E (by omega)⟩
      rw [us_len]
      simp [FW.len]; omega
    · obtain ⟨k, hk⟩ : ∃ k, (-q).toNat = k + 1 := ⟨(-q).toNat - 1, by omega⟩
      rw [hk]
      show _ ≤ (FW.sv ⟨p, e, some true⟩ k).len + 2 ∧ (_ → (FW.sv ⟨p, e, some true⟩ k).E)
      refine ⟨?_, fun h => sv_E (by omega)⟩
      rcases Nat.eq_zero_or_pos k with rfl | h0
      · show _ ≤ (FW.mk p e (some true)).len + 2
        simp [FW.len]; omega
      · rw [sv_len _ _ _ _ h0]
        simp [FW.len]; omega
  · show _ ≤ (FW.step ⟨[], true, none⟩ q).len + 2 ∧ (_ → (FW.step ⟨[], true, none⟩ q).E)
    unfold FW.step
    split
    · refine ⟨?_, fun h => us_E (by omega)⟩
      rw [us_len]
      simp [FW.len, FW.one]; omega
    · obtain ⟨k, hk⟩ : ∃ k, (-q).toNat = k + 1 := ⟨(-q).toNat - 1, by omega⟩
      rw [hk]
      show _ ≤ (FW.sv ⟨[], false, some false⟩ k).len + 2 ∧ (_ → (FW.sv ⟨[], false, some false⟩ k).E)
      refine ⟨?_, fun h => sv_E (by omega)⟩
      rcases Nat.eq_zero_or_pos k with rfl | h0
      · show _ ≤ (FW.mk [] false (some false)).len + 2
        simp [FW.len, FW.one]; omega
      · rw [sv_len _ _ _ _ h0]
        simp [FW.len, FW.one]; omega
/-- all but the last are 2 or more, or -2 or less -/
def Inn : List Int → Prop
  | [] => True
  | [_] => True
  | q :: r => 2 ≤ q.natAbs ∧ Inn r
def absS : List Int → Nat
  | [] => 0
  | q :: r => q.natAbs + absS r
theorem go_len : ∀ (l : List Int) (f : FW), f.E → Inn l → l ≠ [] → f.len + absS l ≤ (f.putS.goQ l).len + 2
  | [], _, _, _, h => absurd rfl h
  | [q], f, hE, _, _ => by
    have := (step_len hE q).1
    show _ ≤ (f.putS.step q).len + 2
    simp only [absS]; omega
  | q :: x :: r, f, hE, hI, _ => by
    obtain ⟨h1, h2⟩ := hI
    obtain ⟨h3, h4⟩ := step_len hE q
    have h5 := go_len (x :: r) _ (h4 h1) h2 (by simp)
    show _ ≤ (FW.goQ (f.putS.step q).putS (x :: r)).len + 2
    have : absS (q :: x :: r) = q.natAbs + absS (x :: r) := rfl
    omega
theorem fr_len (q : Int) (r : List Int) (h : Inn r) : absS (q :: r) ≤ (frW (q :: r)).len + 2 := by
  have h1 : (FW.one.step q).E ∧ q.natAbs ≤ (FW.one.step q).len := by
    unfold FW.step
    split
    · rcases Nat.eq_zero_or_pos q.toNat with h0 | h0
      · rw [h0]
        exact ⟨.inr (.inr rfl), by omega⟩
      · refine ⟨us_E h0, ?_⟩
        show _ ≤ (FW.us ⟨[], false, none⟩ q.toNat).len
        rw [us_len]; simp; omega
    · obtain ⟨k, hk⟩ : ∃ k, (-q).toNat = k + 1 := ⟨(-q).toNat - 1, by omega⟩
      rw [hk]
      show (FW.sv ⟨[], true, some false⟩ k).E ∧ _ ≤ (FW.sv ⟨[], true, some false⟩ k).len
      rcases Nat.eq_zero_or_pos k with rfl | h0
      · refine ⟨.inr (.inl ⟨_, _, rfl⟩), ?_⟩
        show _ ≤ (FW.mk [] true (some false)).len
        simp [FW.len]; omega
      · refine ⟨sv_E h0, ?_⟩
        rw [sv_len _ _ _ _ h0]; simp; omega
  by_cases hr : r = []
  · subst hr
    show _ ≤ (FW.one.step q).len + 2
    simp only [absS]; omega
  · have h2 := go_len r _ h1.1 h hr
    unfold frW
    rw [goQ_cons _ _ hr]
    simp only [absS]; omega
end Go.Proofs.YtfgbmddmmgipnaaDoor
