/- Paths in the tree of fractions: the matrices of places. -/
import Derived.Test.YtkeadknbdihkmaaDoorLet
import Derived.Test.YtkeadknbdihkmaaDoorIsF
namespace Go.Proofs.YtkeadknbdihkmaaDoor
open Go.ChangeShapes Go.WideShapes Go.ChangeAt Go.RowKit

def letM (c : UInt8) : Mat := if c = 76 then ⟨1, 0, 1, 1⟩ else ⟨1, 1, 0, 1⟩
def pathOk (bs : List UInt8) : Bool := bs.all fun c => c == 76 || c == 82
def stepM (m : Mat) (c : UInt8) : Mat := m.mul (letM c)
def walkM (bs : List UInt8) : Mat := bs.foldl stepM Mat.one
/-- How great the numbers of a place may be. -/
def fb : Nat → Int × Int
  | 0 => (1, 1)
  | k + 1 => match fb k with | (u, v) => (v, u + v)
theorem fb_succ (k : Nat) : fb (k + 1) = ((fb k).2, (fb k).1 + (fb k).2) := by
  rcases e : fb k with ⟨u, v⟩
  simp [fb, e]
set_option maxRecDepth 10000 in
theorem fb_le : ∀ k, k < 41 → (fb k).1 ≤ 1000000000 ∧ (fb k).2 ≤ 1000000000 := by decide
structure Pl (m : Mat) (k : Nat) : Prop where
  a0 : 0 ≤ m.a
  b0 : 0 ≤ m.b
  c0 : 0 ≤ m.c
  d0 : 0 ≤ m.d
  det : m.a * m.d - m.b * m.c = 1
  a1 : m.a ≤ (fb k).1
  b1 : m.b ≤ (fb k).1
  c1 : m.c ≤ (fb k).1
  d1 : m.d ≤ (fb k).1
  r1 : m.a + m.b ≤ (fb k).2
  r2 : m.c + m.d ≤ (fb k).2
  up : (fb k).1 ≤ (fb k).2
theorem Pl.one : Pl Mat.one 0 := by constructor <;> decide
theorem mul_L (m : Mat) : m.mul ⟨1, 0, 1, 1⟩ = ⟨m.a + m.b, m.b, m.c + m.d, m.d⟩ := by simp [Mat.mul]
theorem mul_T (m : Mat) : m.mul ⟨1, 1, 0, 1⟩ = ⟨m.a, m.a + m.b, m.c, m.c + m.d⟩ := by simp [Mat.mul]
theorem stepM_L (m : Mat) : stepM m 76 = ⟨m.a + m.b, m.b, m.c + m.d, m.d⟩ := by rw [← mul_L]; rfl
theorem stepM_R (m : Mat) (c : UInt8) (h : c ≠ 76) : stepM m c = ⟨m.a, m.a + m.b, m.c, m.c + m.d⟩ := by rw [← mul_T]; simp [stepM, letM, h]
theorem Pl.step {m : Mat} {k : Nat} (h : Pl m k) (c : UInt8) : Pl (stepM m c) (k + 1) := by
  obtain ⟨a0, b0, c0, d0, det, a1, b1, c1, d1, r1, r2, up⟩ := h
  by_cases e : c = 76
  · subst e
    rw [stepM_L]
    constructor <;> simp only [fb_succ] <;> first | omega | grind
  · rw [stepM_R m c e]
    constructor <;> simp only [fb_succ] <;> first | omega | grind
theorem Pl.fold (bs : List UInt8) : ∀ {m : Mat} {k : Nat}, Pl m k → Pl (bs.foldl stepM m) (k + bs.length) := by
  induction bs with
  | nil => intro m k h; exact h
  | cons c r ih =>
    intro m k h
    have := ih (h.step c)
    simpa [Nat.add_assoc, Nat.add_comm 1] using this
theorem walkM_pl (bs : List UInt8) : Pl (walkM bs) bs.length := by simpa [walkM] using Pl.fold bs Pl.one
theorem walkM_step (s : ByteArray) (k : Nat) (hk : k < s.size) : walkM (s.data.toList.take (k + 1)) = stepM (walkM (s.data.toList.take k)) s[k] := by
  have hl : k < s.data.toList.length := by rw [str_len]; exact hk
  rw [List.take_succ_eq_append_getElem hl, str_at s k hk hl]
  simp [walkM]
theorem walkM_at (s : ByteArray) (k : Nat) (hk : k ≤ s.size) : Pl (walkM (s.data.toList.take k)) k := by
  have := walkM_pl (s.data.toList.take k)
  rwa [List.length_take, str_len, Nat.min_eq_left hk] at this
theorem Pl.ok {m : Mat} {k : Nat} (h : Pl m k) (hk : k ≤ 40) : m.ok = true := by
  obtain ⟨a0, b0, c0, d0, det, a1, b1, c1, d1, r1, r2, up⟩ := h
  obtain ⟨h1, h2⟩ := fb_le k (by omega)
  exact (allW4 _ _ _ _).2 ⟨by unfold Ent; omega, by unfold Ent; omega, by unfold Ent; omega, by unfold Ent; omega⟩
theorem prod_walk (bs : List UInt8) : ∀ {m : Mat} {k : Nat}, Pl m k → k + bs.length ≤ 40 → prod m (bs.map letM) = some (bs.foldl stepM m) := by
  induction bs with
  | nil => intro m k _ _; rfl
  | cons c r ih =>
    intro m k h hk
    simp only [List.length_cons] at hk
    simp only [List.map_cons, List.foldl_cons, prod]
    have h2 := h.step c
    show (if (stepM m c).ok = true then prod (stepM m c) (r.map letM) else none) = _
    rw [if_pos (h2.ok (by omega))]
    exact ih h2 (by omega)
theorem letM_is (c : UInt8) : (letM c).is = true := by
  unfold letM
  split <;> decide
theorem PA_walk (bs : List UInt8) (hn : bs.length ≤ 40) : PA (bs.map letM) (walkM bs) 0 := by
  refine .inr (.inr ⟨List.all_eq_true.2 ?_, prod_walk bs Pl.one (by omega), rfl⟩)
  intro x hx
  obtain ⟨c, _, rfl⟩ := List.mem_map.1 hx
  exact letM_is c
theorem Pl.low {m : Mat} {k : Nat} (h : Pl m k) (hk : k ≤ 40) : lowP (m.a + m.b) (m.c + m.d) = m.a + m.b ∧ lowQ (m.a + m.b) (m.c + m.d) = m.c + m.d ∧ Mid (m.a + m.b) ∧ Mid (m.c + m.d) ∧ ¬ (m.a + m.b = 0 ∧ m.c + m.d = 0) := by
  obtain ⟨a0, b0, c0, d0, det, a1, b1, c1, d1, r1, r2, up⟩ := h
  obtain ⟨h1, h2⟩ := fb_le k (by omega)
  have hq : 0 < m.c + m.d := by
    rcases Int.lt_or_le 0 (m.c + m.d) with h | h
    · exact h
    · have e1 : m.c = 0 := by omega
      have e2 : m.d = 0 := by omega
      rw [e1, e2] at det
      simp at det
  have m1 : Mid (m.a + m.b) := by unfold Mid; omega
  have m2 : Mid (m.c + m.d) := by unfold Mid; omega
  have hne : ¬ (m.a + m.b = 0 ∧ m.c + m.d = 0) := by omega
  have hg : Int.gcd (m.a + m.b) (m.c + m.d) = 1 := by
    obtain ⟨x, hx⟩ := Int.gcd_dvd_left (m.a + m.b) (m.c + m.d)
    obtain ⟨y, hy⟩ := Int.gcd_dvd_right (m.a + m.b) (m.c + m.d)
    have hd : ((Int.gcd (m.a + m.b) (m.c + m.d) : Nat) : Int) ∣ 1 := by
      refine ⟨m.d * x - m.b * y, ?_⟩
      generalize ((Int.gcd (m.a + m.b) (m.c + m.d) : Nat) : Int) = g at hx hy
      have : g * (m.d * x - m.b * y) = m.d * (g * x) - m.b * (g * y) := by grind
      rw [this, ← hx, ← hy]
      grind
    have := Int.eq_one_of_dvd_one (by omega) hd
    omega
  obtain ⟨l1, l2⟩ := (low_iff hne m1 m2).2 ⟨hg, by omega, .inl hq⟩
  exact ⟨l1, l2, m1, m2, hne⟩
open Classical in
/-- The letters of paths. -/
noncomputable def pathF (x : Lit) : Option Mat := if x = byteK 82 then some ⟨1, 1, 0, 1⟩ else if x = byteK 76 then some ⟨1, 0, 1, 1⟩ else none
theorem byteK_inj {c d : UInt8} : byteK c = byteK d ↔ c = d := by
  constructor
  · intro h
    simp only [byteK, Lit.int.injEq, true_and] at h
    exact UInt8.toNat_inj.1 (by omega)
  · rintro rfl; rfl
theorem pathF_at (c : UInt8) : pathF (byteK c) = if c == 76 || c == 82 then some (letM c) else none := by
  unfold pathF letM
  by_cases h1 : c = 82
  · subst h1; simp
  · by_cases h2 : c = 76
    · subst h2; simp [byteK_inj]
    · rw [if_neg (fun h => h1 (byteK_inj.1 h)), if_neg (fun h => h2 (byteK_inj.1 h))]
      simp [h1, h2]
theorem spell_path (bs : List UInt8) : spell pathF bs = if pathOk bs then some (bs.map letM) else none := by
  induction bs with
  | nil => rfl
  | cons c r ih =>
    simp only [spell, pathF_at, ih, pathOk, List.all_cons, List.map_cons]
    by_cases h : (c == 76 || c == 82) = true
    · by_cases h2 : (r.all fun c => c == 76 || c == 82) = true
      · simp [h, h2]
      · simp only [h, h2, if_true, Bool.true_and]
        rfl
    · simp only [h, Bool.false_and]
      rfl
theorem pathOk_stop (s : ByteArray) (k : Nat) (hk : k < s.size) (h1 : s[k] ≠ 76) (h2 : s[k] ≠ 82) : pathOk s.data.toList = false := by
  have hl : k < s.data.toList.length := by rw [str_len]; exact hk
  refine List.all_eq_false.2 ⟨s.data.toList[k], List.getElem_mem hl, ?_⟩
  rw [str_at s k hk hl]
  simp [h1, h2]
end Go.Proofs.YtkeadknbdihkmaaDoor
