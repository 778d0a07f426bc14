/- Words out of runs: impl.sumOf, impl.spellRuns. -/
import Derived.Test.YtfgbmddmmgipnaaDoorBase
import Derived.Test.YtfgbmddmmgipnaaDoorShf
namespace Go.Proofs.YtfgbmddmmgipnaaDoor
open Go.ChangeShapes Go.WideShapes Go.ChangeAt Go.RowKit

/-- The word of runs. -/
def spellB (f s : List UInt8) : List Int → List UInt8
  | [] => []
  | n :: r => Lib.repeatL f n.toNat ++ spellB s f r
def sumI : List Int → Int
  | [] => 0
  | n :: r => n + sumI r
theorem sumI_nonneg : ∀ {xs : List Int}, (∀ x ∈ xs, 0 ≤ x) → 0 ≤ sumI xs
  | [], _ => by simp [sumI]
  | n :: r, h => by
    have h1 := sumI_nonneg (xs := r) fun x hx => h x (by simp [hx])
    have h2 := h n (by simp)
    simp only [sumI]
    omega
theorem sumI_append (xs ys : List Int) : sumI (xs ++ ys) = sumI xs + sumI ys := by
  induction xs with
  | nil => simp [sumI]
  | cons x r ih => simp only [List.cons_append, sumI, ih]; omega
theorem sumI_drop {xs : List Int} {k : Nat} (hk : k < xs.length) : sumI (xs.drop k) = xs.getD k 0 + sumI (xs.drop (k + 1)) := by
  rw [List.drop_eq_getElem_cons hk, sumI, List.getD, List.getElem?_eq_getElem hk]
  rfl
theorem sumI_take {xs : List Int} {k : Nat} (hk : k < xs.length) : sumI (xs.take (k + 1)) = sumI (xs.take k) + xs.getD k 0 := by
  rw [List.take_succ_eq_append_getElem hk, sumI_append, List.getD, List.getElem?_eq_getElem hk]
  simp [sumI]
theorem sumI_le {xs : List Int} (h : ∀ x ∈ xs, 0 ≤ x) (k : Nat) : 0 ≤ sumI (xs.take k) ∧ sumI (xs.take k) ≤ sumI xs := by
  have h1 := sumI_nonneg (xs := xs.take k) fun x hx => h x (List.mem_of_mem_take hx)
  have h2 := sumI_nonneg (xs := xs.drop k) fun x hx => h x (List.mem_of_mem_drop hx)
  have h3 := sumI_append (xs.take k) (xs.drop k)
  rw [List.take_append_drop] at h3
  omega
theorem getD_nonneg {xs : List Int} (h : ∀ x ∈ xs, 0 ≤ x) (k : Nat) : 0 ≤ xs.getD k 0 := by
  rw [List.getD]
  rcases hi : xs[k]? with _ | y
  · simp
  · exact h y (List.mem_of_getElem? hi)

set_option maxHeartbeats 1000000 in
theorem sumOf_any (xs : List Int) (h : ∀ x ∈ xs, 0 ≤ x) (S : Int) (hS : sumI xs = S) (hb : S ≤ 1000000000000) (g off cap : Nat) (ad : Option Addr) (hn : xs.length ≤ 10000000000) (had : 0 < xs.length → ad = some ⟨g, off, none⟩) (w : World) (hc : ∀ k, k < xs.length → w.cell? ⟨g, off + k, none⟩ = some (.int .i64 (xs.getD k 0))) :
    Calls Tryd.prog 23 #[.slice ad xs.length cap] w fun e w' => e = .returned (.int .i64 S) ∧ w = w' := by
  have HC := Lib.hid hc
  have HS := Lib.hid hS
  have HN := Lib.hid (fun k => sumI_le h k)
  have HG := Lib.hid (fun k => getD_nonneg h k)
  have HA := Lib.hid had
  clear hc hS h had
  go_enter Tryd.func23, Tryd.ntmps23
  go_wp2
  go_loop [3, 8] (fun s i => ∃ k : Nat, k ≤ xs.length ∧ s = (.int .i64 (sumI (xs.take k))) ∧ i = (.int .i64 k)) (fun _ i => xs.length - (intOf i).toNat)
  case atStart => exact ⟨0, Nat.zero_le _, by simp [sumI], rfl⟩
  case round =>
    obtain ⟨k, hk, rfl, rfl⟩ := hrel
    by_cases hlt : k < xs.length
    · obtain rfl := HA.out (by omega)
      obtain ⟨y, hy⟩ : ∃ y, xs.getD k 0 = y := ⟨_, rfl⟩
      obtain ⟨t, ht⟩ : ∃ t, sumI (xs.take k) = t := ⟨_, rfl⟩
      have c0 := HC.out k hlt
      rw [hy] at c0
      have b1 := HN.out k
      have b2 := HN.out (k + 1)
      have b3 := HG.out k
      have hst := sumI_take hlt
      rw [hy, ht] at hst
      rw [hy] at b3
      rw [hst, HS.out] at b2
      rw [ht] at b1 ⊢
      have HST := Lib.hid hst
      clear hst hy ht
      go_wp2
      go_round
      case rel => exact ⟨k + 1, by omega, by rw [HST.out], by go_num⟩
      case measure => simp [intOf]; omega
    · have hke : k = xs.length := by omega
      have HE := Lib.hid (show sumI (xs.take k) = S by rw [hke, List.take_length]; exact HS.out)
      rw [HE.out]
      clear hke
      go_wp2
      go_ret
      exact ⟨rfl, rfl⟩

theorem isBuilder_below {T e : TypeId} {B b : Nat} {bs : List Value} {w w' : World} (h : Lib.IsBuilder T e B b bs w) (hb : Below w.heap.size w w') : Lib.IsBuilder T e B b bs w' := by
  have key : ∀ p, Lib.BuilderAt T e B b p bs w → Lib.BuilderAt T e B b p bs w' := fun p hp => by
    have hlt := hp.lt
    obtain ⟨h1, v, h2, h3, h4⟩ := hp
    refine ⟨h1, v, (hb.block b hlt).trans h2, ?_, h4⟩
    refine World.ownsRow.kept (row := none) h3 ⟨hb.os, hb.tape, hb.output, hb.size, fun k hk _ => hb.block k hk⟩ ?_
    rcases e : v.ownBlock with _ | k
    · exact .inl rfl
    · exact .inr (by simp)
  exact h.elim (fun x => .inl (key _ x)) (fun x => .inr (key _ x))
theorem spell_size {f : List UInt8} (hf : f.length ≤ 2) (n : Nat) : (Lib.repeatL f n).length ≤ 2 * n := by
  rw [Lib.repeatL_length]
  have := Nat.mul_le_mul_left n hf
  omega
theorem spellB_drop {f s : List UInt8} {xs : List Int} {k : Nat} (hk : k < xs.length) : spellB f s (xs.drop k) = Lib.repeatL f (xs.getD k 0).toNat ++ spellB s f (xs.drop (k + 1)) := by
  rw [List.drop_eq_getElem_cons hk, spellB, List.getD, List.getElem?_eq_getElem hk]
  rfl

theorem wr_any (B b : Nat) (l : List UInt8) (s : ByteArray) (w : World) (h : Lib.IsBuilder 72 5 B b (Lib.byteCells l) w) (hlen : l.length + s.size ≤ 100000) (hBw : B ≤ w.heap.size) :
    Calls Tryd.prog 41 #[.pointer (some ⟨b, 0, none⟩), .string s] w fun e w' => e = .returned (.tuple #[.int .i64 s.size, .nilIface]) ∧ Lib.IsBuilder 72 5 B b (Lib.byteCells (l ++ s.data.toList)) w' ∧ Below B w w' := by
  have h1 : (Lib.byteCells l).length + s.size ≤ 140737488355328 := by rw [Lib.byteCells_length]; omega
  refine (Builder_WriteStringR B b (Lib.byteCells l) s w h h1 hBw).mono fun e w' ⟨h2, h3, h4⟩ => ⟨h2, ?_, h4⟩
  rw [Lib.strCells_eq, ← Lib.byteCells_append] at h3
  exact Or.inr h3
theorem rep_any (s : ByteArray) (n : Int) (h0 : 0 ≤ n) (hn : n ≤ 1000) (hs : s.size ≤ 2) (w : World) :
    Calls Tryd.prog 42 #[.string s, .int .i64 n] w fun e w' => e = .returned (.string ⟨(Lib.repeatL s.data.toList n.toNat).toArray⟩) ∧ Below w.heap.size w w' := by
  obtain ⟨c, rfl⟩ : ∃ c : Nat, n = (c : Int) := ⟨n.toNat, by omega⟩
  have h1 : s.size * c ≤ 2 * 1000 := Nat.mul_le_mul hs (by omega)
  exact strings_Repeat s c w (by omega) (by omega)
set_option maxHeartbeats 2000000 in
theorem spellRuns_any (xs : List Int) (h : ∀ x ∈ xs, 0 ≤ x) (hS : sumI xs ≤ 200) (f s : ByteArray) (hf : f.size ≤ 2) (hs : s.size ≤ 2) (g off cap : Nat) (ad : Option Addr) (hn : xs.length ≤ 10000000000) (had : 0 < xs.length → ad = some ⟨g, off, none⟩) (w : World) (hg : 0 < xs.length → g < w.heap.size) (hc : ∀ k, k < xs.length → w.cell? ⟨g, off + k, none⟩ = some (.int .i64 (xs.getD k 0))) :
    Calls Tryd.prog 24 #[.slice ad xs.length cap, .string f, .string s] w fun e w' => e = .returned (.string ⟨(spellB f.data.toList s.data.toList xs).toArray⟩) ∧ Below w.heap.size w w' := by
  have HC := Lib.hid hc
  have HN := Lib.hid (fun k => sumI_le h k)
  have HG := Lib.hid (fun k => getD_nonneg h k)
  have HD := Lib.hid (fun k => sumI_nonneg (xs := xs.drop k) fun x hx => h x (List.mem_of_mem_drop hx))
  have HA := Lib.hid had
  have HL := Lib.hid hg
  clear hc h had hg
  go_enter Tryd.func24, Tryd.ntmps24
  go_wp2
  go_loopw [1, 2, 12] (fun a b i wr => ∃ (k : Nat) (f1 s1 : ByteArray) (done : List UInt8), k ≤ xs.length ∧ a = .string f1 ∧ b = .string s1 ∧ i = (.int .i64 k) ∧ f1.size ≤ 2 ∧ s1.size ≤ 2 ∧
      Hid (spellB f.data.toList s.data.toList xs = done ++ spellB f1.data.toList s1.data.toList (xs.drop k)) ∧ Hid ((done.length : Int) + 2 * sumI (xs.drop k) ≤ 400) ∧
      Lib.IsBuilder 72 5 w.heap.size w.heap.size (Lib.byteCells done) wr ∧ Below w.heap.size w wr) (fun _ _ i _ => xs.length - (intOf i).toNat)
  case atStart => exact ⟨0, f, s, [], Nat.zero_le _, rfl, rfl, rfl, hf, hs, Lib.hid (by simp), Lib.hid (by simp; omega), Lib.fresh_isBuilder _ _ w, by repeat (first | with_reducible exact own_refl _ | with_reducible assumption | with_reducible apply own_alloc | with_reducible apply own_drewN | with_reducible apply own_drew | ((with_reducible refine own_setCell ?_ ?_ _); rotate_left; focus (first | (simp; done) | (simp; omega))) | (with_reducible (refine own_trans ?_ (by assumption))))⟩
  case round =>
    obtain ⟨k, f1, s1, done, hk, rfl, rfl, rfl, hf1, hs1, HW, HB, hI, T⟩ := hrel
    by_cases hlt : k < xs.length
    · obtain rfl := HA.out (by omega)
      have hgl := HL.out (by omega)
      obtain ⟨y, hy⟩ : ∃ y, xs.getD k 0 = y := ⟨_, rfl⟩
      have c0 : wr.cell? ⟨g, off + k, none⟩ = some (.int .i64 y) := by rw [T.cell (p := ⟨g, off + k, none⟩) hgl, HC.out k hlt, hy]
      have b3 := HG.out k
      have hdr := sumI_drop hlt
      have b4 := HD.out (k + 1)
      have b5 := HB.out
      rw [hy] at b3 hdr
      have hy200 : y ≤ 200 := by omega
      have HW' := Lib.hid (show spellB f.data.toList s.data.toList xs = (done ++ Lib.repeatL f1.data.toList y.toNat) ++ spellB s1.data.toList f1.data.toList (xs.drop (k + 1)) by
        rw [HW.out, spellB_drop hlt, hy, List.append_assoc])
      have hrl : (Lib.repeatL f1.data.toList y.toNat).length ≤ 2 * y.toNat := spell_size (by rw [← Lib.size_eq]; exact hf1) _
      have HB' := Lib.hid (show ((done ++ Lib.repeatL f1.data.toList y.toNat).length : Int) + 2 * sumI (xs.drop (k + 1)) ≤ 400 by
        rw [List.length_append]; omega)
      have hdl : done.length ≤ 400 := by omega
      clear hy hdr b4 b5
      go_wp2_with fail
      refine (rep_any f1 y b3 (by omega) hf1 _).mono ?_
      rintro e w2 ⟨rfl, hb2⟩
      have hI2 := isBuilder_below hI hb2
      have T2 := own_trans T hb2
      go_wp2_with fail
      refine (wr_any w.heap.size w.heap.size done ⟨(Lib.repeatL f1.data.toList y.toNat).toArray⟩ _ hI2 (by
        have : (⟨(Lib.repeatL f1.data.toList y.toNat).toArray⟩ : ByteArray).size = (Lib.repeatL f1.data.toList y.toNat).length := by rw [Lib.size_eq]
        omega) T2.size).mono ?_
      rintro e w3 ⟨rfl, hI3, hb3⟩
      have T3 := T2.trans hb3
      go_wp2
      go_roundw
      case rel => exact ⟨k + 1, s1, f1, _, by omega, rfl, rfl, by go_num, hs1, hf1, HW', HB', hI3, T3⟩
      case measure => simp [intOf]; omega
    · have hke : k = xs.length := by omega
      have HF := Lib.hid (show spellB f.data.toList s.data.toList xs = done by rw [HW.out, hke, List.drop_length, spellB, List.append_nil])
      clear hke
      go_wp2_with fail
      refine (Builder_String_any w.heap.size w.heap.size done _ hI T.size).mono ?_
      rintro e w2 ⟨rfl, hb2⟩
      go_wp2
      go_ret
      exact ⟨by rw [HF.out]; rfl, T.trans hb2⟩
end Go.Proofs.YtfgbmddmmgipnaaDoor
