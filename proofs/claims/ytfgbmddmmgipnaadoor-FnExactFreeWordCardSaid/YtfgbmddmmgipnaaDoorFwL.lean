/- FreeWord: both sides. -/
import Derived.Test.YtfgbmddmmgipnaaDoorFwK
import Derived.Test.YtfgbmddmmgipnaaDoorShp
namespace Go.Proofs.YtfgbmddmmgipnaaDoor
open Go.ChangeShapes Go.WideShapes Go.ChangeAt Go.RowKit

theorem trimS (x : List UInt8) : Lib.trimSuffix (x ++ [83]) [83] = x := by
  simp [Lib.trimSuffix, Lib.hasSuffix, List.isSuffixOf]
theorem retST {x y : List UInt8} (h : x = y) : Ending.returned (.tuple #[.string ⟨x.toArray⟩, (.int .i64 0)]) = Ending.returned (.tuple #[.string ⟨y.toArray⟩, (.int .i64 0)]) := by rw [h]
theorem retSB {x : ByteArray} {y : List UInt8} (h : x.data.toList = y) : Ending.returned (.tuple #[.string x, (.int .i64 0)]) = Ending.returned (.tuple #[.string ⟨y.toArray⟩, (.int .i64 0)]) := by rw [← h]
theorem spellB_len2 : ∀ {xs : List Int}, (∀ x ∈ xs, 0 ≤ x) → ((spellB [85, 83] [86, 83] xs).length : Int) = 2 * sumI xs ∧ ((spellB [86, 83] [85, 83] xs).length : Int) = 2 * sumI xs
  | [], _ => ⟨rfl, rfl⟩
  | n :: r, h => by
    obtain ⟨h1, h2⟩ := spellB_len2 (xs := r) fun x hx => h x (by simp [hx])
    have h3 := h n (by simp)
    simp only [spellB, sumI, List.length_append, Lib.repeatL_length, List.length_cons, List.length_nil]
    omega
theorem preB (W : ByteArray) : ((⟨#[83]⟩ : ByteArray) ++ W).data.toList = 83 :: W.data.toList := by
  simp [ByteArray.data_append]
theorem specFw_no (a b c d : Int) (h : isM a b c d = false) (w : World) :
    Calls Tryd.prog 12 #[(.agg #[.int .i64 a, .int .i64 b, .int .i64 c, .int .i64 d])] w fun e w' => e = .returned (.tuple #[.string ⟨#[]⟩, (.int .i64 1)]) ∧ Below w.heap.size w w' := by
  have H := Lib.hid h
  clear h
  go_enter Tryd.func12, Tryd.ntmps12
  go_wp2_with fail
  refine (l01Is_is false _ _ _ _ _ H.out).mono ?_
  rintro e w1 ⟨rfl, hb1⟩
  go_wp2
  go_ret2
  exact ⟨rfl, by repeat (first | with_reducible exact own_refl _ | with_reducible assumption | with_reducible apply own_alloc | with_reducible apply own_drewN | with_reducible apply own_drew | ((with_reducible refine own_setCell ?_ ?_ _); rotate_left; focus (first | (simp; done) | (simp; omega))) | (with_reducible (refine own_trans ?_ (by assumption))))⟩
theorem specFw_yes (a b c d : Int) (h : isM a b c d = true) (l : List UInt8) (r : Bool) (l' : List UInt8) (k : Int) (hk : (r = true ∧ l' = l ∧ k = 0) ∨ (r = false ∧ l' = [] ∧ k = 3))
    (hF : ∀ w : World, Calls Tryd.prog 21 #[(.agg #[.int .i64 a, .int .i64 b, .int .i64 c, .int .i64 d])] w fun e w' => e = .returned (.tuple #[.string ⟨l.toArray⟩, .bool r]) ∧ Below w.heap.size w w') (w : World) :
    Calls Tryd.prog 12 #[(.agg #[.int .i64 a, .int .i64 b, .int .i64 c, .int .i64 d])] w fun e w' => e = .returned (.tuple #[.string ⟨l'.toArray⟩, (.int .i64 k)]) ∧ Below w.heap.size w w' := by
  have H := Lib.hid h
  have HF := Lib.hid hF
  clear h hF
  rcases hk with ⟨rfl, rfl, rfl⟩ | ⟨rfl, rfl, rfl⟩
  all_goals
    go_enter Tryd.func12, Tryd.ntmps12
    go_wp2_with fail
    refine (l01Is_is true _ _ _ _ _ H.out).mono ?_
    rintro e w1 ⟨rfl, hb1⟩
    have B1 : Box w1 w.heap.size [.int .i64 a, .int .i64 b, .int .i64 c, .int .i64 d] := Box.below (Box.new _ _ _) hb1
    obtain ⟨_, _, _, _, _, _, _, _, _⟩ := B1.four
    have T1 : Below w.heap.size w w1 := by repeat (first | with_reducible exact own_refl _ | with_reducible assumption | with_reducible apply own_alloc | with_reducible apply own_drewN | with_reducible apply own_drew | ((with_reducible refine own_setCell ?_ ?_ _); rotate_left; focus (first | (simp; done) | (simp; omega))) | (with_reducible (refine own_trans ?_ (by assumption))))
    go_wp2_with fail
    refine (HF.out _).mono ?_
    rintro e w2 ⟨rfl, hb2⟩
    go_wp2
    go_ret2
    exact ⟨rfl, own_trans T1 hb2⟩
theorem implFw_no (a b c d : Int) (h : isM a b c d = false) (w : World) :
    Calls Tryd.prog 14 #[(.agg #[.int .i64 a, .int .i64 b, .int .i64 c, .int .i64 d])] w fun e w' => e = .returned (.tuple #[.string ⟨#[]⟩, (.int .i64 1)]) ∧ Below w.heap.size w w' := by
  have H := Lib.hid h
  clear h
  go_enter Tryd.func14, Tryd.ntmps14
  go_wp2_with fail
  refine (implIs_is false _ _ _ _ _ H.out).mono ?_
  rintro e w1 ⟨rfl, hb1⟩
  go_wp2
  go_ret2
  exact ⟨rfl, by repeat (first | with_reducible exact own_refl _ | with_reducible assumption | with_reducible apply own_alloc | with_reducible apply own_drewN | with_reducible apply own_drew | ((with_reducible refine own_setCell ?_ ?_ _); rotate_left; focus (first | (simp; done) | (simp; omega))) | (with_reducible (refine own_trans ?_ (by assumption))))⟩
set_option maxRecDepth 100000 in
set_option maxHeartbeats 4000000 in
theorem implFw_yes (a b c d : Int) (hm : isM a b c d = true) (e h : Bool) (xs : List Int) (hx : ∀ x ∈ xs, 0 ≤ x) (hn : xs.length ≤ 10000000000) (S : Int) (hS : sumI xs = S) (hS0 : 0 ≤ S) (hS1 : S ≤ 1000000000000)
    (hh : h = true → 1 ≤ S) (l : List UInt8) (k : Int)
    (hl : (200 < 2 * S + (if e then 1 else 0) - (if h then 1 else 0) ∧ l = [] ∧ k = 3) ∨ (2 * S + (if e then 1 else 0) - (if h then 1 else 0) ≤ 200 ∧ k = 0 ∧ (if h then l ++ [83] else l) = (if e then [83] else []) ++ spellB [85, 83] [86, 83] xs)) (w : World) (_ : Idn w) (_ : MxS w)
    (hP : ∀ w' : World, Below w.heap.size w w' → Calls Tryd.prog 22 #[(.agg #[.int .i64 a, .int .i64 b, .int .i64 c, .int .i64 d])] w' fun r w2 => ∃ v, r = .returned (.tuple #[.bool e, v, .bool h]) ∧ Gr w2 w'.heap.size v xs ∧ Below w'.heap.size w' w2) :
    Calls Tryd.prog 14 #[(.agg #[.int .i64 a, .int .i64 b, .int .i64 c, .int .i64 d])] w fun e w' => e = .returned (.tuple #[.string ⟨l.toArray⟩, (.int .i64 k)]) ∧ Below w.heap.size w w' := by
  have HM := Lib.hid hm
  have HP := Lib.hid hP
  have HX := Lib.hid hx
  have HS := Lib.hid hS
  have HL := Lib.hid hl
  have HH := Lib.hid hh
  clear hm hP hx hS hl hh
  go_enter Tryd.func14, Tryd.ntmps14
  go_wp2_with fail
  refine (implIs_is true _ _ _ _ _ HM.out).mono ?_
  rintro r w1 ⟨rfl, hb1⟩
  have B1 : Box w1 w.heap.size [.int .i64 a, .int .i64 b, .int .i64 c, .int .i64 d] := Box.below (Box.new _ _ _) hb1
  obtain ⟨_, _, _, _, _, _, _, _, _⟩ := B1.four
  have T1 : Below w.heap.size w w1 := by repeat (first | with_reducible exact own_refl _ | with_reducible assumption | with_reducible apply own_alloc | with_reducible apply own_drewN | with_reducible apply own_drew | ((with_reducible refine own_setCell ?_ ?_ _); rotate_left; focus (first | (simp; done) | (simp; omega))) | (with_reducible (refine own_trans ?_ (by assumption))))
  go_wp2_with fail
  refine (HP.out _ T1).mono ?_
  rintro r w2 ⟨v, rfl, hG, hb2⟩
  have hs := hG.sl
  obtain ⟨hu, ad, cap, rfl, hc⟩ := hs
  have T2 := own_trans T1 hb2
  have HCS : Hid (Calls Tryd.prog 23 #[.slice ad xs.length cap] w2 fun e w' => e = .returned (.int .i64 S) ∧ w2 = w') := Lib.hid (by
    rcases Nat.eq_zero_or_pos xs.length with h0 | h0
    · exact sumOf_any xs HX.out S HS.out (by omega) 0 0 cap ad (by omega) (fun h => by omega) w2 (fun k hk => by omega)
    · obtain ⟨g, off, had, _, _, hcc⟩ := hc h0
      exact sumOf_any xs HX.out S HS.out (by omega) g off cap ad (by omega) (fun _ => had) w2 (fun k hk => (hcc k hk).1))
  have HCP : Hid (S ≤ 200 → Calls Tryd.prog 24 #[.slice ad xs.length cap, .string ⟨#[85, 83]⟩, .string ⟨#[86, 83]⟩] w2 fun e w' => e = .returned (.string ⟨(spellB [85, 83] [86, 83] xs).toArray⟩) ∧ Below w2.heap.size w2 w') := Lib.hid (by
    intro hS2
    rcases Nat.eq_zero_or_pos xs.length with h0 | h0
    · exact spellRuns_any xs HX.out (by rw [HS.out]; exact hS2) ⟨#[85, 83]⟩ ⟨#[86, 83]⟩ (by decide) (by decide) 0 0 cap ad (by omega) (fun h => by omega) w2 (fun h => by omega) (fun k hk => by omega)
    · obtain ⟨g, off, had, _, hgu, hcc⟩ := hc h0
      exact spellRuns_any xs HX.out (by rw [HS.out]; exact hS2) ⟨#[85, 83]⟩ ⟨#[86, 83]⟩ (by decide) (by decide) g off cap ad (by omega) (fun _ => had) w2 (fun _ => hgu) (fun k hk => (hcc k hk).1))
  clear hc hG hb2 hb1 B1
  go_wp2_with fail
  refine HCS.out.mono ?_
  rintro r w3 ⟨rfl, rfl⟩
  cases e <;> cases h
  all_goals
    simp only [Bool.false_eq_true, if_false, if_true, Int.add_zero, Int.sub_zero, List.nil_append] at HL
  · rcases HL.out with ⟨hbig, rfl, rfl⟩ | ⟨hsm, rfl, hle⟩
    · go_wp2
      go_ret2
      exact ⟨rfl, T2⟩
    · have HE := Lib.hid hle
      clear hle
      go_wp2_with fail
      refine (HCP.out (by omega)).mono ?_
      rintro r w4 ⟨rfl, hb4⟩
      go_wp2
      go_ret2
      exact ⟨retST HE.out.symm, own_trans T2 hb4⟩
  · have hSp := HH.out rfl
    rcases HL.out with ⟨hbig, rfl, rfl⟩ | ⟨hsm, rfl, hle⟩
    · go_wp2
      go_ret2
      exact ⟨rfl, T2⟩
    · have HE := Lib.hid hle
      have HZ := Lib.hid (spellB_len2 HX.out).1
      have hS2 : S ≤ 200 := by omega
      have hsz : (⟨(spellB [85, 83] [86, 83] xs).toArray⟩ : ByteArray).size ≤ 1000 := by
        have h1 := HZ.out
        rw [HS.out] at h1
        show (spellB [85, 83] [86, 83] xs).toArray.size ≤ 1000
        simp only [List.size_toArray]
        omega
      clear hle
      go_wp2_with fail
      refine (HCP.out hS2).mono ?_
      rintro r w4 ⟨rfl, hb4⟩
      go_wp2_with fail
      refine (strings_TrimSuffix _ _ _ (by omega)).mono ?_
      rintro r w5 ⟨rfl, rfl⟩
      go_wp2
      go_ret2
      exact ⟨retST (by rw [← HE.out]; exact trimS l), own_trans T2 hb4⟩
  · rcases HL.out with ⟨hbig, rfl, rfl⟩ | ⟨hsm, rfl, hle⟩
    · go_wp2
      go_ret2
      exact ⟨rfl, T2⟩
    · have HE := Lib.hid hle
      have HZ := Lib.hid (spellB_len2 HX.out).1
      have hS2 : S ≤ 200 := by omega
      have hsz : (⟨(spellB [85, 83] [86, 83] xs).toArray⟩ : ByteArray).size ≤ 1000 := by
        have h1 := HZ.out
        rw [HS.out] at h1
        show (spellB [85, 83] [86, 83] xs).toArray.size ≤ 1000
        simp only [List.size_toArray]
        omega
      clear hle
      go_wp2_with fail
      refine (HCP.out hS2).mono ?_
      rintro r w4 ⟨rfl, hb4⟩
      have HV := Lib.hid (show (⟨(spellB [85, 83] [86, 83] xs).toArray⟩ : ByteArray).data.toList = spellB [85, 83] [86, 83] xs from rfl)
      generalize (⟨(spellB [85, 83] [86, 83] xs).toArray⟩ : ByteArray) = W at *
      go_wp2
      go_ret2
      exact ⟨retSB (by rw [preB, HV.out, HE.out]; rfl), own_trans T2 hb4⟩
  · have hSp := HH.out rfl
    rcases HL.out with ⟨hbig, rfl, rfl⟩ | ⟨hsm, rfl, hle⟩
    · go_wp2
      go_ret2
      exact ⟨rfl, T2⟩
    · have HE := Lib.hid hle
      have HZ := Lib.hid (spellB_len2 HX.out).1
      have hS2 : S ≤ 200 := by omega
      have hsz : (⟨(spellB [85, 83] [86, 83] xs).toArray⟩ : ByteArray).size ≤ 1000 := by
        have h1 := HZ.out
        rw [HS.out] at h1
        show (spellB [85, 83] [86, 83] xs).toArray.size ≤ 1000
        simp only [List.size_toArray]
        omega
      clear hle
      go_wp2_with fail
      refine (HCP.out hS2).mono ?_
      rintro r w4 ⟨rfl, hb4⟩
      have HV := Lib.hid (show (⟨(spellB [85, 83] [86, 83] xs).toArray⟩ : ByteArray).data.toList = spellB [85, 83] [86, 83] xs from rfl)
      generalize (⟨(spellB [85, 83] [86, 83] xs).toArray⟩ : ByteArray) = W at *
      go_wp2_with fail
      refine (strings_TrimSuffix _ _ _ (by simp only [ByteArray.size_append]; have : (⟨#[83]⟩ : ByteArray).size = 1 := rfl; omega)).mono ?_
      rintro r w5 ⟨rfl, rfl⟩
      go_wp2
      go_ret2
      exact ⟨retST (by rw [HV.out]; exact (congrArg (fun z => Lib.trimSuffix z [83]) HE.out.symm).trans (trimS l)), own_trans T2 hb4⟩
end Go.Proofs.YtfgbmddmmgipnaaDoor
