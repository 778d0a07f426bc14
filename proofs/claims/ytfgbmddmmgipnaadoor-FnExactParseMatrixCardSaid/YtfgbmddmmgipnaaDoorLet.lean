/- impl.matricesOfLetters: contract, over any map of letters. -/
import Derived.Test.YtfgbmddmmgipnaaDoorMapM
import Derived.Test.YtfgbmddmmgipnaaDoorMorI
import Derived.Test.YtfgbmddmmgipnaaDoorIdxS
namespace Go.Proofs.YtfgbmddmmgipnaaDoor
open Go.ChangeShapes Go.WideShapes Go.ChangeAt Go.RowKit

/-- The key that a byte reads as. -/
def byteK (c : UInt8) : Lit := .int .u8 c.toNat
theorem byte_keyed : Maps.Keyed Tryd.prog 5 := Maps.int_keyed Tryd.underlying5
theorem byte_key (c : UInt8) : keyOf Tryd.prog 5 (.int .u8 (c.toNat : Int)) = some (byteK c) := by
  refine Maps.keyOf_int_mk Tryd.underlying5 ?_
  have := c.toNat_lt
  show (decide ((0 : Int) ≤ (c.toNat : Int)) && decide ((c.toNat : Int) ≤ (255 : Int))) = true
  simp only [Bool.and_eq_true, decide_eq_true_eq]
  omega
/-- The matrices of the bytes, where each is a letter. -/
def spell (f : Lit → Option Mat) : List UInt8 → Option (List Mat)
  | [] => some []
  | c :: r => match f (byteK c), spell f r with
    | some m, some ms => some (m :: ms)
    | _, _ => none
theorem spell_snoc (f : Lit → Option Mat) (bs : List UInt8) (ms : List Mat) (c : UInt8) (m : Mat) (h : spell f bs = some ms) (hm : f (byteK c) = some m) : spell f (bs ++ [c]) = some (ms ++ [m]) := by
  induction bs generalizing ms with
  | nil => simp only [spell, Option.some.injEq] at h; subst h; simp [spell, hm]
  | cons d r ih =>
    simp only [spell] at h
    rcases e1 : f (byteK d) with _ | x
    · rw [e1] at h; simp at h
    · rcases e2 : spell f r with _ | y
      · rw [e1, e2] at h; simp at h
      · rw [e1, e2] at h
        simp only [Option.some.injEq] at h
        subst h
        simp only [List.cons_append, spell, e1, ih y e2]
theorem spell_none (f : Lit → Option Mat) (bs : List UInt8) (k : Nat) (hk : k < bs.length) (hm : f (byteK bs[k]) = none) : spell f bs = none := by
  induction bs generalizing k with
  | nil => simp at hk
  | cons d r ih =>
    cases k with
    | zero => simp only [List.getElem_cons_zero] at hm; simp [spell, hm]
    | succ k =>
      simp only [List.getElem_cons_succ] at hm
      have := ih k (by simpa using hk) hm
      simp only [spell, this]
      split <;> simp_all
theorem spell_len (f : Lit → Option Mat) (bs : List UInt8) (ms : List Mat) (h : spell f bs = some ms) : ms.length = bs.length := by
  induction bs generalizing ms with
  | nil => simp only [spell, Option.some.injEq] at h; subst h; rfl
  | cons d r ih =>
    simp only [spell] at h
    rcases e1 : f (byteK d) with _ | x
    · rw [e1] at h; simp at h
    · rcases e2 : spell f r with _ | y
      · rw [e1, e2] at h; simp at h
      · rw [e1, e2] at h
        simp only [Option.some.injEq] at h
        subst h
        simp [ih y e2]
theorem spell_step (f : Lit → Option Mat) (s : ByteArray) (k : Nat) (hk : k < s.size) (ms : List Mat) (m : Mat) (h : spell f (s.data.toList.take k) = some ms) (hm : f (byteK s[k]) = some m) :
    spell f (s.data.toList.take (k + 1)) = some (ms ++ [m]) := by
  have hl : k < s.data.toList.length := by rw [str_len]; exact hk
  rw [List.take_succ_eq_append_getElem hl, str_at s k hk hl]
  exact spell_snoc f _ _ _ _ h hm
theorem spell_stop (f : Lit → Option Mat) (s : ByteArray) (k : Nat) (hk : k < s.size) (hm : f (byteK s[k]) = none) : spell f s.data.toList = none := by
  have hl : k < s.data.toList.length := by rw [str_len]; exact hk
  exact spell_none f _ k hl (by rw [str_at s k hk hl]; exact hm)
theorem spell_all (f : Lit → Option Mat) (s : ByteArray) (k : Nat) (hk : k = s.size) (ms : List Mat) (h : spell f (s.data.toList.take k) = some ms) : spell f s.data.toList = some ms := by
  rwa [List.take_of_length_le (by rw [str_len]; omega)] at h
theorem byteK_eq {c d : UInt8} : byteK c = byteK d ↔ c = d := by
  constructor
  · intro h
    simp only [byteK, Lit.int.injEq, true_and] at h
    exact UInt8.toNat_inj.1 (by omega)
  · rintro rfl; rfl
theorem spell_get (f : Lit → Option Mat) (bs : List UInt8) (ms : List Mat) (h : spell f bs = some ms) (k : Nat) (hk : k < bs.length) (hk2 : k < ms.length) : f (byteK bs[k]) = some ms[k] := by
  induction bs generalizing ms k with
  | nil => simp at hk
  | cons d r ih =>
    simp only [spell] at h
    rcases e1 : f (byteK d) with _ | x
    · rw [e1] at h; simp at h
    · rcases e2 : spell f r with _ | y
      · rw [e1, e2] at h; simp at h
      · rw [e1, e2] at h
        simp only [Option.some.injEq] at h
        subst h
        cases k with
        | zero => simpa using e1
        | succ k => simpa using ih y e2 k (by simpa using hk) (by simpa using hk2)
theorem spell_at (f : Lit → Option Mat) (s : ByteArray) (ms : List Mat) (h : spell f s.data.toList = some ms) (k : Nat) (hk : k < s.size) : ∃ hk2 : k < ms.length, f (byteK s[k]) = some ms[k] := by
  have hl : k < s.data.toList.length := by rw [str_len]; exact hk
  have hn : k < ms.length := by rw [spell_len f _ _ h]; exact hl
  refine ⟨hn, ?_⟩
  rw [← spell_get f _ _ h k hl hn, str_at s k hk hl]
/-- What matricesOfLetters returns. -/
def LetRes (o : Option (List Mat)) (e : Ending) (w : World) : Prop :=
  (∃ ms g cap, o = some ms ∧ e = .returned (.tuple #[.slice (some ⟨g, 0, none⟩) ms.length cap, .bool true]) ∧ Box w g (matCells ms)) ∨ (o = none ∧ e = .returned (.tuple #[.slice none 0 0, .bool false]))
theorem LetRes.some {w : World} {e : Ending} {ms : List Mat} (h : LetRes (some ms) e w) : ∃ g cap, e = .returned (.tuple #[.slice (some ⟨g, 0, none⟩) ms.length cap, .bool true]) ∧ Box w g (matCells ms) := by
  rcases h with ⟨ms', g, cap, h1, h2, h3⟩ | ⟨h1, _⟩
  · cases h1; exact ⟨g, cap, h2, h3⟩
  · cases h1
theorem LetRes.none {w : World} {e : Ending} (h : LetRes none e w) : e = .returned (.tuple #[.slice none 0 0, .bool false]) := by
  rcases h with ⟨ms', g, cap, h1, h2, h3⟩ | ⟨_, h1⟩
  · cases h1
  · exact h1
theorem matCells_nil : matCells [] = [] := rfl

end Go.Proofs.YtfgbmddmmgipnaaDoor
