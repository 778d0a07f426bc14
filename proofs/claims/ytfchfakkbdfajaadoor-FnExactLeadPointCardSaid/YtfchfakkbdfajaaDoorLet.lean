/- impl.matricesOfLetters: contract, over any map of letters. -/
import Derived.Test.YtfchfakkbdfajaaDoorMapM
import Derived.Test.YtfchfakkbdfajaaDoorMorI
import Derived.Test.YtfchfakkbdfajaaDoorIdxS
namespace Go.Proofs.YtfchfakkbdfajaaDoor
open Go.ChangeShapes Go.WideShapes Go.ChangeAt Go.RowKit

/-- The key that a byte reads as. -/
def byteK (c : UInt8) : Lit := .int .u8 c.toNat
theorem byte_keyed : Maps.Keyed Tryd.prog 5 := Maps.int_keyed Tryd.underlying5
theorem byte_key (c : UInt8) : keyOf Tryd.prog 5 (.int .u8 (c.toNat : Int)) = some (byteK c) := by
  refine Maps.keyOf_int_mk Tryd.underlying5 ?_
  have := c.toNat_lt
  show (decide ((0 : Int) ≤ (c.toNat : Int)) && decide ((c.toNat : Int) ≤ (255 : Int))) = true
  simp only [Bool.and_eq_true, decide_eq_true_eq]
  omega
/-- The matrices of the bytes, where each is a letter. -/
def spell (f : Lit → Option Mat) : List UInt8 → Option (List Mat)
  | [] => some []
  | c :: r => match f (byteK c), spell f r with
    | some m, some ms => some (m :: ms)
    | _, _ => none
theorem spell_snoc (f : Lit → Option Mat) (bs : List UInt8) (ms : List Mat) (c : UInt8) (m : Mat) (h : spell f bs = some ms) (hm : f (byteK c) = some m) : spell f (bs ++ [c]) = some (ms ++ [m]) := by
  induction bs generalizing ms with
  | nil => simp only [spell, Option.some.injEq] at h; subst h; simp [spell, hm]
  | cons d r ih =>
    simp only [spell] at h
    rcases e1 : f (byteK d) with _ | x
    · rw [e1] at h; simp at h
    · rcases e2 : spell f r with _ | y
      · rw [e1, e2] at h; simp at h
      · rw [e1, e2] at h
        simp only [Option.some.injEq] at h
        subst h
        simp only [List.cons_append, spell, e1, ih y e2]
theorem spell_none (f : Lit → Option Mat) (bs : List UInt8) (k : Nat) (hk : k < bs.length) (hm : f (byteK bs[k]) = none) : spell f bs = none := by
  induction bs generalizing k with
  | nil => simp at hk
  | cons d r ih =>
    cases k with
    | zero => simp only [List.getElem_cons_zero] at hm; simp [spell, hm]
    | succ k =>
      simp only [List.getElem_cons_succ] at hm
      have := ih k (by simpa using hk) hm
      simp only [spell, this]
      split <;> simp_all
theorem spell_len (f : Lit → Option Mat) (bs : List UInt8) (ms : List Mat) (h : spell f bs = some ms) : ms.length = bs.length := by
  induction bs generalizing ms with
  | nil => simp only [spell, Option.some.injEq] at h; subst h; rfl
  | cons d r ih =>
    simp only [spell] at h
    rcases e1 : f (byteK d) with _ | x
    · rw [e1] at h; simp at h
    · rcases e2 : spell f r with _ | y
      · rw [e1, e2] at h; simp at h
      · rw [e1, e2] at h
        simp only [Option.some.injEq] at h
        subst h
        simp [ih y e2]
theorem spell_step (f : Lit → Option Mat) (s : ByteArray) (k : Nat) (hk : k < s.size) (ms : List Mat) (m : Mat) (h : spell f (s.data.toList.take k) = some ms) (hm : f (byteK s[k]) = some m) :
    spell f (s.data.toList.take (k + 1)) = some (ms ++ [m]) := by
  have hl : k < s.data.toList.length := by rw [str_len]; exact hk
  rw [List.take_succ_eq_append_getElem hl, str_at s k hk hl]
  exact spell_snoc f _ _ _ _ h hm
theorem spell_stop (f : Lit → Option Mat) (s : ByteArray) (k : Nat) (hk : k < s.size) (hm : f (byteK s[k]) = none) : spell f s.data.toList = none := by
  have hl : k < s.data.toList.length := by rw [str_len]; exact hk
  exact spell_none f _ k hl (by rw [str_at s k hk hl]; exact hm)
theorem spell_all (f : Lit → Option Mat) (s : ByteArray) (k : Nat) (hk : k = s.size) (ms : List Mat) (h : spell f (s.data.toList.take k) = some ms) : spell f s.data.toList = some ms := by
  rwa [List.take_of_length_le (by rw [str_len]; omega)] at h
theorem byteK_eq {c d : UInt8} : byteK c = byteK d ↔ c = d := by
  constructor
  · intro h
    simp only [byteK, Lit.int.injEq, true_and] at h
    exact UInt8.toNat_inj.1 (by omega)
  · rintro rfl; rfl
theorem spell_get (f : Lit → Option Mat) (bs : List UInt8) (ms : List Mat) (h : spell f bs = some ms) (k : Nat) (hk : k < bs.length) (hk2 : k < ms.length) : f (byteK bs[k]) = some ms[k] := by
  induction bs generalizing ms k with
  | nil => simp at hk
  | cons d r ih =>
    simp only [spell] at h
    rcases e1 : f (byteK d) with _ | x
    · rw [e1] at h; simp at h
    · rcases e2 : spell f r with _ | y
      · rw [e1, e2] at h; simp at h
      · rw [e1, e2] at h
        simp only [Option.some.injEq] at h
        subst h
        cases k with
        | zero => simpa using e1
        | succ k => simpa using ih y e2 k (by simpa using hk) (by simpa using hk2)
theorem spell_at (f : Lit → Option Mat) (s : ByteArray) (ms : List Mat) (h : spell f s.data.toList = some ms) (k : Nat) (hk : k < s.size) : ∃ hk2 : k < ms.length, f (byteK s[k]) = some ms[k] := by
  have hl : k < s.data.toList.length := by rw [str_len]; exact hk
  have hn : k < ms.length := by rw [spell_len f _ _ h]; exact hl
  refine ⟨hn, ?_⟩
  rw [← spell_get f _ _ h k hl hn, str_at s k hk hl]
/-- What matricesOfLetters returns. -/
def LetRes (o : Option (List Mat)) (e : Ending) (w : World) : Prop :=
  (∃ ms g cap, o = some ms ∧ e = .returned (.tuple #[.slice (some ⟨g, 0, none⟩) ms.length cap, .bool true]) ∧ Box w g (matCells ms)) ∨ (o = none ∧ e = .returned (.tuple #[.slice none 0 0, .bool false]))
theorem LetRes.some {w : World} {e : Ending} {ms : List Mat} (h : LetRes (some ms) e w) : ∃ g cap, e = .returned (.tuple #[.slice (some ⟨g, 0, none⟩) ms.length cap, .bool true]) ∧ Box w g (matCells ms) := by
  rcases h with ⟨ms', g, cap, h1, h2, h3⟩ | ⟨h1, _⟩
  · cases h1; exact ⟨g, cap, h2, h3⟩
  · cases h1
theorem LetRes.none {w : World} {e : Ending} (h : LetRes none e w) : e = .returned (.tuple #[.slice none 0 0, .bool false]) := by
  rcases h with ⟨ms', g, cap, h1, h2, h3⟩ | ⟨_, h1⟩
  · cases h1
  · exact h1
theorem matCells_nil : matCells [] = [] := rfl

set_option maxHeartbeats 2000000 in
theorem letters_long (s : ByteArray) (lim : Int) (hn : lim < (s.size : Int)) (v : Value) (w : World) :
    Calls Tryd.prog 27 #[.string s, (.int .i64 lim), v] w fun e w' => LetRes none e w' ∧ Below w.heap.size w w' := by
  go_enter Tryd.func27, Tryd.ntmps27
  go_wp2
  exact bodyPost_ret (v := .tuple #[.slice none 0 0, .bool false]) (by simp [results, Tryd.results27, go_sem]) rfl ⟨.inr ⟨rfl, rfl⟩, own_refl _⟩
set_option maxRecDepth 100000 in
set_option maxHeartbeats 2000000 in
theorem letters_any (s : ByteArray) (lim : Int) (hn : (s.size : Int) ≤ lim) (hl : lim ≤ 1000) (f : Lit → Option Mat) (o : Option (List Mat)) (ho : spell f s.data.toList = o) (b n : Nat) (w : World) (hL : LMn w 52 5 b f n) :
    Calls Tryd.prog 27 #[.string s, (.int .i64 lim), .map (some b)] w fun e w' => LetRes o e w' ∧ Below w.heap.size w w' := by
  have HO := Lib.hid ho
  have HL := Lib.hid hL
  have hn1 : ¬ lim < (s.size : Int) := by omega
  obtain ⟨cur, hcur, hmk⟩ := makeA s.size (by omega)
  have HCUR := Lib.hid hcur
  clear ho hL hcur
  go_enter Tryd.func27, Tryd.ntmps27
  go_wp2
  go_loopw [8, 21] (fun v i wr => ∃ (k : Nat) (ms : List Mat) (g cap : Nat), k ≤ s.size ∧ i = (.int .i64 k) ∧ v = .slice (some ⟨g, 0, none⟩) k cap ∧ g < wr.heap.size ∧ spell f (s.data.toList.take k) = some ms ∧ GrA wr w.heap.size (.slice (some ⟨g, 0, none⟩) k cap) k (flat ms) ∧ Below w.heap.size w wr) (fun _ i _ => s.size - (intOf i).toNat)
  case atStart => exact ⟨0, [], _, _, Nat.zero_le _, rfl, rfl, by simp, rfl, GrA.madeCap rfl (Nat.le_refl _) HCUR.out (by omega), by repeat (first | with_reducible exact own_refl _ | with_reducible assumption | with_reducible apply own_alloc | with_reducible apply own_drewN | with_reducible apply own_drew | ((with_reducible refine own_setCell ?_ ?_ _); rotate_left; focus (first | (simp; done) | (simp; omega))) | (with_reducible (refine own_trans ?_ (by assumption))))⟩
  case round =>
    obtain ⟨k, ms, g, cap, hk, rfl, rfl, hgl, hsp, hG, T⟩ := hrel
    have HSP := Lib.hid hsp
    clear hsp
    by_cases hlt : k < s.size
    · have hix := idx_str s k hlt
      have hlk := (HL.out.below T).look byte_keyed _ _ (byte_key s[k])
      rcases hf : f (byteK s[k]) with _ | m
      · have HE := Lib.hid (spell_stop f s k hlt hf)
        rw [hf] at hlk
        simp only [Option.getD_none, Option.isSome_none, matV, Mat.zero] at hlk
        clear hf
        go_wp2
        exact bodyPost_ret (v := .tuple #[.slice none 0 0, .bool false]) (by simp [results, Tryd.results27, go_sem]) rfl ⟨.inr ⟨by rw [← HO.out]; exact HE.out, rfl⟩, by repeat (first | with_reducible exact own_refl _ | with_reducible assumption | with_reducible apply own_alloc | with_reducible apply own_drewN | with_reducible apply own_drew | ((with_reducible refine own_setCell ?_ ?_ _); rotate_left; focus (first | (simp; done) | (simp; omega))) | (with_reducible (refine own_trans ?_ (by assumption))))⟩
      · have HE := Lib.hid (spell_step f s k hlt ms m HSP.out hf)
        rw [hf] at hlk
        simp only [Option.getD_some, Option.isSome_some, matV] at hlk
        have G1 := hG.alloc (.cells #[.int .i64 m.a, .int .i64 m.b, .int .i64 m.c, .int .i64 m.d] 38)
        have T1 := own_alloc T (.cells #[.int .i64 m.a, .int .i64 m.b, .int .i64 m.c, .int .i64 m.d] 38)
        have hz1 : w.heap.size ≤ wr.heap.size := T.size
        clear hf
        go_wp2_with (at_builtin; refine appA rfl _ _ rfl w.heap.size (wr.alloc (.cells #[.int .i64 m.a, .int .i64 m.b, .int .i64 m.c, .int .i64 m.d] 38)) (.slice (some ⟨g, 0, none⟩) k cap) k _ m.a m.b m.c m.d rfl G1 (wr.heap.size + 1) rfl (by simp) (by omega) (by simp; omega) ?_; intro v' w3 hG3 hb3)
        go_roundw
        case rel =>
          have hF : GrA w3 w.heap.size v' (k + 1) (flat (ms ++ [m])) := by rw [flat_snoc]; exact hG3
          obtain ⟨g', cap', hv, hgL, hBx⟩ := hF.box (Nat.succ_pos k)
          subst hv
          exact ⟨k + 1, ms ++ [m], g', cap', by omega, by go_num, rfl, hBx.1, HE.out, hF, T1.trans hb3⟩
        case measure => simp [intOf]; omega
    · have HE := Lib.hid (spell_all f s k (by omega) ms HSP.out)
      have HLN := Lib.hid (spell_len f _ ms HE.out)
      rw [str_len] at HLN
      have HB : Hid (Box wr g (matCells ms)) := by
        by_cases h0 : 0 < k
        · obtain ⟨g', cap', hv, _, hBx⟩ := hG.box h0
          injection hv with hv1 hv2 hv3
          injection hv1 with hv1
          injection hv1 with hv1 _ _
          subst hv1
          exact Lib.hid hBx
        · have : ms = [] := List.length_eq_zero_iff.1 (by have := HLN.out; omega)
          subst this
          exact Lib.hid ⟨hgl, fun i u hu => by simp [matCells_nil] at hu⟩
      have HKS : Hid (k = ms.length) := Lib.hid (by have := HLN.out; omega)
      go_wp2
      exact bodyPost_ret (v := .tuple #[.slice (some ⟨g, 0, none⟩) k cap, .bool true]) (by simp [results, Tryd.results27, go_sem]) rfl ⟨.inl ⟨ms, g, cap, by rw [← HO.out]; exact HE.out, by rw [← HKS.out], HB.out⟩, by repeat (first | with_reducible exact own_refl _ | with_reducible assumption | with_reducible apply own_alloc | with_reducible apply own_drewN | with_reducible apply own_drew | ((with_reducible refine own_setCell ?_ ?_ _); rotate_left; focus (first | (simp; done) | (simp; omega))) | (with_reducible (refine own_trans ?_ (by assumption))))⟩
end Go.Proofs.YtfchfakkbdfajaaDoor
