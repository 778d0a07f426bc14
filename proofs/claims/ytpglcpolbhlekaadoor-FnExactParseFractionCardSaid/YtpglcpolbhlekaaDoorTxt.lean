/- Texts of matrices and fractions: the model's side. -/
import Derived.Test.YtpglcpolbhlekaaDoorDec
import Derived.Test.YtpglcpolbhlekaaDoorA
import Derived.Test.YtpglcpolbhlekaaDoorIsF
namespace Go.Proofs.YtpglcpolbhlekaaDoor
open Go.ChangeShapes Go.WideShapes Go.ChangeAt Go.RowKit

/-- a number's text -/
def itoaB (n : Int) : ByteArray := ⟨(Lib.itoa n).toArray⟩
theorem itoaB_size {n : Int} (h : Ent n) : (itoaB n).size ≤ 21 := by
  unfold Ent at h
  rw [itoaB, Lib.size_eq]
  exact Lib.itoa_length_le n (by omega) (by omega)
theorem decE_any (n : Int) (h : Ent n) (w : World) : Calls Tryd.prog 52 #[(.int .i64 n)] w fun e w' => e = .returned (.string (itoaB n)) ∧ Below w.heap.size w w' := by
  unfold Ent at h
  exact decS_any n (by omega) (by omega) w
/-- the text of four numbers, of two -/
def text4 (a b c d : Int) : ByteArray := itoaB a ++ ⟨#[44]⟩ ++ itoaB b ++ ⟨#[44]⟩ ++ itoaB c ++ ⟨#[44]⟩ ++ itoaB d
def text2 (a b : Int) : ByteArray := itoaB a ++ ⟨#[47]⟩ ++ itoaB b
set_option maxRecDepth 100000 in
set_option maxHeartbeats 2000000 in
theorem text4_any (a b c d : Int) (ha : Ent a) (hb : Ent b) (hc : Ent c) (hd : Ent d) (w : World) :
    Calls Tryd.prog 29 #[(.agg #[.int .i64 a, .int .i64 b, .int .i64 c, .int .i64 d])] w fun e w' => e = .returned (.string (text4 a b c d)) ∧ Below w.heap.size w w' := by
  have sa := itoaB_size ha
  have sb := itoaB_size hb
  have sc := itoaB_size hc
  have sd := itoaB_size hd
  have DA := Lib.hid (decE_any a ha)
  have DB := Lib.hid (decE_any b hb)
  have DC := Lib.hid (decE_any c hc)
  have DD := Lib.hid (decE_any d hd)
  have HT := Lib.hid (show text4 a b c d = itoaB a ++ ⟨#[44]⟩ ++ itoaB b ++ ⟨#[44]⟩ ++ itoaB c ++ ⟨#[44]⟩ ++ itoaB d from rfl)
  generalize text4 a b c d = TX at *
  generalize itoaB a = A at *
  generalize itoaB b = B at *
  generalize itoaB c = C at *
  generalize itoaB d = D at *
  have n1 : ¬ 9223372036854775807 < A.size + 1 := by omega
  have n2 : ¬ 9223372036854775807 < A.size + 1 + B.size := by omega
  have n3 : ¬ 9223372036854775807 < A.size + 1 + B.size + 1 := by omega
  have n4 : ¬ 9223372036854775807 < A.size + 1 + B.size + 1 + C.size := by omega
  have n5 : ¬ 9223372036854775807 < A.size + 1 + B.size + 1 + C.size + 1 := by omega
  have n6 : ¬ 9223372036854775807 < A.size + 1 + B.size + 1 + C.size + 1 + D.size := by omega
  clear ha hb hc hd
  go_enter Tryd.func29, Tryd.ntmps29
  go_upto_region 1 with fail
  have BM : Box (w.alloc (.cells #[.int .i64 a, .int .i64 b, .int .i64 c, .int .i64 d] 25)) w.heap.size [.int .i64 a, .int .i64 b, .int .i64 c, .int .i64 d] := Box.new _ _ _
  have T : Below w.heap.size w (w.alloc (.cells #[.int .i64 a, .int .i64 b, .int .i64 c, .int .i64 d] 25)) := own_alloc (own_refl w) _
  obtain ⟨W0, hW0⟩ : ∃ W0, w.alloc (.cells #[.int .i64 a, .int .i64 b, .int .i64 c, .int .i64 d] 25) = W0 := ⟨_, rfl⟩
  rw [hW0] at BM T ⊢
  clear hW0
  obtain ⟨_, _, _, _, _, _, _, _, _⟩ := BM.four
  go_cut [2] (fun s wx => s = .string TX ∧ Below w.heap.size w wx)
  case first =>
    go_region_held3 (fun w' => w'.cell? ⟨w.heap.size, 0, none⟩ = some (.int .i64 a) ∧ w'.cell? ⟨w.heap.size, 1, none⟩ = some (.int .i64 b) ∧ w'.cell? ⟨w.heap.size, 2, none⟩ = some (.int .i64 c) ∧ w'.cell? ⟨w.heap.size, 3, none⟩ = some (.int .i64 d)) (go_keep)
      (first
      | (go_at_call 52; refine (DA.out _).mono ?_; rintro e w2 ⟨rfl, hb2⟩; have T := (by first | exact own_trans T hb2 | exact own_trans (own_drew T) hb2 : Below w.heap.size w w2); have BM := Box.below (by first | exact BM | exact Box.drew BM) hb2; obtain ⟨_, _, _, _, _, _, _, _, _⟩ := BM.four; have DA := DB; have DB := DC; have DC := DD))
    all_goals
      go_wp2_with fail
      go_meet
      exact ⟨by rw [HT.out], T⟩
  case rest =>
    obtain ⟨rfl, T⟩ := hcut
    go_wp2
    go_ret
    exact ⟨rfl, T⟩
set_option maxRecDepth 100000 in
set_option maxHeartbeats 2000000 in
theorem text2_any (a b : Int) (ha : Ent a) (hb : Ent b) (w : World) :
    Calls Tryd.prog 33 #[(.agg #[.int .i64 a, .int .i64 b])] w fun e w' => e = .returned (.string (text2 a b)) ∧ Below w.heap.size w w' := by
  have sa := itoaB_size ha
  have sb := itoaB_size hb
  have DA := Lib.hid (decE_any a ha)
  have DB := Lib.hid (decE_any b hb)
  have HT := Lib.hid (show text2 a b = itoaB a ++ ⟨#[47]⟩ ++ itoaB b from rfl)
  generalize text2 a b = TX at *
  generalize itoaB a = A at *
  generalize itoaB b = B at *
  have n1 : ¬ 9223372036854775807 < A.size + 1 := by omega
  have n2 : ¬ 9223372036854775807 < A.size + 1 + B.size := by omega
  clear ha hb
  go_enter Tryd.func33, Tryd.ntmps33
  go_upto_region 1 with fail
  have BM : Box (w.alloc (.cells #[.int .i64 a, .int .i64 b] 30)) w.heap.size [.int .i64 a, .int .i64 b] := Box.new _ _ _
  have T : Below w.heap.size w (w.alloc (.cells #[.int .i64 a, .int .i64 b] 30)) := own_alloc (own_refl w) _
  obtain ⟨W0, hW0⟩ : ∃ W0, w.alloc (.cells #[.int .i64 a, .int .i64 b] 30) = W0 := ⟨_, rfl⟩
  rw [hW0] at BM T ⊢
  clear hW0
  obtain ⟨_, _, _, _, _⟩ := BM.two
  go_cut [2] (fun s wx => s = .string TX ∧ Below w.heap.size w wx)
  case first =>
    go_region_held3 (fun w' => w'.cell? ⟨w.heap.size, 0, none⟩ = some (.int .i64 a) ∧ w'.cell? ⟨w.heap.size, 1, none⟩ = some (.int .i64 b)) (go_keep)
      (first
      | (go_at_call 52; refine (DA.out _).mono ?_; rintro e w2 ⟨rfl, hb2⟩; have T := (by first | exact own_trans T hb2 | exact own_trans (own_drew T) hb2 : Below w.heap.size w w2); have BM := Box.below (by first | exact BM | exact Box.drew BM) hb2; obtain ⟨_, _, _, _, _⟩ := BM.two; have DA := DB))
    all_goals
      go_wp2_with fail
      go_meet
      exact ⟨by rw [HT.out], T⟩
  case rest =>
    obtain ⟨rfl, T⟩ := hcut
    go_wp2
    go_ret
    exact ⟨rfl, T⟩
end Go.Proofs.YtpglcpolbhlekaaDoor
