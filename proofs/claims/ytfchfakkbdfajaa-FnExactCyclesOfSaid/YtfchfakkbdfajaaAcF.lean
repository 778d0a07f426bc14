/- Forms from points: both sides. -/
import Derived.Test.YtfchfakkbdfajaaAcS
import Derived.Test.YtfchfakkbdfajaaAcK
namespace Go.Proofs.Ytfchfakkbdfajaa
open Go.ChangeShapes Go.WideShapes Go.ChangeAt Go.RowKit

theorem numF_step {ms : List Int} {n k : Nat} : numF ms n (k + 1) = (numF ms n k).set (pt ms k) (k : Int) := rfl
set_option maxHeartbeats 8000000 in
theorem form_is (a b : Value) (s t : List Int) (n : Nat) (hn : n ≤ 1000000) (h0 : 0 < n) (hs : Pm s n) (ht : Pm t n) (i : Nat) (hi : i < n) (w : World) (ha : Rl w a s) (hb : Rl w b t) :
    Calls Try.prog 55 #[.agg #[a, b], (.int .i64 ((i : Int)))] w fun e w' => ∃ v, e = .returned v ∧ AcR w' w.heap.size v (frm s t i n s) (frm s t i n t) ∧ Below w.heap.size w w' := by
  have hms := met_ps hs ht hi
  have HP := Lib.hid (fun w' (h : Below w.heap.size w w') => points_is a b s t n hn hs ht i hi w' (ha.below h) (hb.below h))
  have HR := Lib.hid (fun pv w' (h : Below w.heap.size w w') hp => renum_is a b pv s t (num (met s t i n) n) n hn h0 hs.len ht.len (num_len _ _) hs.b ht.b (num_bd hms h0) w' (ha.below h) (hb.below h) hp)
  have HF : Hid (frm s t i n s = ren (num (met s t i n) n) s ∧ frm s t i n t = ren (num (met s t i n) n) t) := Lib.hid ⟨rfl, rfl⟩
  have HZ : Hid (numF (met s t i n) n 0 = List.replicate n 0 ∧ numF (met s t i n) n (met s t i n).length = num (met s t i n) n) := Lib.hid ⟨rfl, rfl⟩
  obtain ⟨g, c, rfl, _⟩ := ha.at (by rw [hs.len]; omega)
  obtain ⟨g', c', rfl, _⟩ := hb.at (by rw [ht.len]; omega)
  rw [hs.len, ht.len] at *
  generalize frm s t i n s = fs at *
  generalize frm s t i n t = ft at *
  generalize met s t i n = ms at *
  have HM := Lib.hid hms
  have hml := hms.le
  clear hs ht ha hb hms
  have B0 : Box ((w.alloc (.cells #[.slice (some ⟨g, 0, none⟩) n c, .slice (some ⟨g', 0, none⟩) n c'] 27)).alloc (.cells #[.slice none 0 0, .slice none 0 0] 27)) w.heap.size [.slice (some ⟨g, 0, none⟩) n c, .slice (some ⟨g', 0, none⟩) n c'] := (Box.new _ _ _).alloc _
  have C0 : Box ((w.alloc (.cells #[.slice (some ⟨g, 0, none⟩) n c, .slice (some ⟨g', 0, none⟩) n c'] 27)).alloc (.cells #[.slice none 0 0, .slice none 0 0] 27)) (w.heap.size + 1) [.slice none 0 0, .slice none 0 0] := Box.newAt (by simp) _ _
  have T0 := own_alloc (own_alloc (own_refl w) (.cells #[.slice (some ⟨g, 0, none⟩) n c, .slice (some ⟨g', 0, none⟩) n c'] 27)) (.cells #[.slice none 0 0, .slice none 0 0] 27)
  have hsz : ((w.alloc (.cells #[.slice (some ⟨g, 0, none⟩) n c, .slice (some ⟨g', 0, none⟩) n c'] 27)).alloc (.cells #[.slice none 0 0, .slice none 0 0] 27)).heap.size = w.heap.size + 1 + 1 := by simp
  have hmk := mk64 n (by omega)
  go_enter Try.func55, Try.ntmps55
  go_upto_region 1 with fail
  generalize (w.alloc (.cells #[.slice (some ⟨g, 0, none⟩) n c, .slice (some ⟨g', 0, none⟩) n c'] 27)).alloc (.cells #[.slice none 0 0, .slice none 0 0] 27) = w0 at *
  obtain ⟨-, c0, c1, -, -⟩ := B0.two
  have GN := Gr.lit0 (w := w0) (L := w.heap.size + 1 + 1) hsz (by omega) n (by omega)
  have T1 := own_alloc T0 (.cells (Array.replicate n (.int .i64 0)) 2)
  have B1 := B0.alloc (.cells (Array.replicate n (.int .i64 0)) 2)
  have C1 := C0.alloc (.cells (Array.replicate n (.int .i64 0)) 2)
  have hsz1 : (w0.alloc (.cells (Array.replicate n (.int .i64 0)) 2)).heap.size = w.heap.size + 1 + 1 + 1 := by simp [hsz]
  go_upto_region 2 with fail
  clear c0 c1
  generalize w0.alloc (.cells (Array.replicate n (.int .i64 0)) 2) = w1 at *
  obtain ⟨-, c0, c1, -, -⟩ := B1.two
  clear B0 C0 T0 hsz
  go_wp2_with fail
  refine (HP.out _ T1).mono ?_
  rintro e w2 ⟨v, rfl, GV, hb2⟩
  rw [hsz1] at GV
  have G2 := GN.own hb2
  have T2 := own_trans T1 hb2
  have B2 := B1.below hb2
  have C2 := C1.below hb2
  clear GN T1 B1 C1 hb2 c0 c1 hsz1
  obtain ⟨ad, cap, e⟩ := GV.shape
  subst e
  obtain ⟨N, hN⟩ : ∃ N, ms.length = N := ⟨_, rfl⟩
  have HN := Lib.hid hN
  rw [hN] at hml HZ GV ⊢
  clear hN
  go_wp2_with fail
  go_loopw [16] (fun x wr => ∃ k : Nat, k ≤ N ∧ x = (.int .i64 ((k : Int))) ∧ Gr wr (w.heap.size + 1 + 1) (.slice (some ⟨w.heap.size + 1 + 1, 0, none⟩) n n) (numF ms n k) ∧ Gr wr (w.heap.size + 1 + 1 + 1) (.slice ad N cap) ms ∧
    Box wr w.heap.size [.slice (some ⟨g, 0, none⟩) n c, .slice (some ⟨g', 0, none⟩) n c'] ∧ Box wr (w.heap.size + 1) [.slice none 0 0, .slice none 0 0] ∧ Below w.heap.size w wr) (fun x _ => N - (intOf x).toNat)
  case atStart => exact ⟨0, Nat.zero_le _, rfl, by rw [HZ.out.1]; exact G2, GV, B2, C2, T2⟩
  case round =>
    clear G2 GV B2 C2 T2
    obtain ⟨k, hk, rfl, G, GV, B, C, T⟩ := hrel
    by_cases hlt : k < N
    · obtain ⟨em, hmk⟩ := HM.out.b.at (i := k) (by rw [HN.out]; exact hlt)
      obtain ⟨gv, rfl, _, _, hcv⟩ := GV.cellsZ (by omega)
      have cv := (hcv k hlt).1
      rw [em] at cv
      have hnl := numF_len ms n k
      obtain ⟨_, e, _, _, hcn⟩ := G.cellsZ h0
      injection e with e; injection e with e; subst e
      obtain ⟨cn, fn⟩ := hcn (pt ms k) hmk
      have HS : Hid (numF ms n (k + 1) = (numF ms n k).set (pt ms k) (k : Int)) := Lib.hid rfl
      clear hcv hcn em
      generalize pt ms k = j at *
      have G2 := G.put' hnl hmk (y := (k : Int))
      have GV2 := GV.set (p := ⟨w.heap.size + 1 + 1, j, none⟩) (by simp) (.int .i64 ((k : Int)))
      have B2 := B.far (p := ⟨w.heap.size + 1 + 1, j, none⟩) (by simp; omega) (.int .i64 ((k : Int)))
      have C2 := C.far (p := ⟨w.heap.size + 1 + 1, j, none⟩) (by simp) (.int .i64 ((k : Int)))
      have T2 := own_setCell T (p := ⟨w.heap.size + 1 + 1, j, none⟩) (by simp; omega) (.int .i64 ((k : Int)))
      go_wp2
      go_roundw
      case rel => exact ⟨k + 1, by omega, by go_num, by rw [HS.out]; exact G2, GV2, B2, C2, T2⟩
      case measure => simp [intOf]; omega
    · obtain rfl : k = N := by omega
      rw [HZ.out.2] at G
      obtain ⟨-, c0, c1, -, -⟩ := B.two
      clear hlt GV
      go_wp2_with fail
      refine (HR.out _ _ T G.rl).mono ?_
      rintro e w5 ⟨v5, rfl, hA5, hb5⟩
      rw [← HF.out.1, ← HF.out.2] at hA5
      have T5 := own_trans T hb5
      have C5 := C.below hb5
      have hzr := C.1
      obtain ⟨a5, c5, b5, d5, e5⟩ := hA5.shape
      subst e5
      obtain ⟨a6, b6, e6, GA, GB, hap⟩ := hA5
      injection e6 with e6
      have ea : a6 = .slice a5 fs.length c5 := by have := congrArg (fun x => x[0]?) e6; simpa using this.symm
      have eb : b6 = .slice b5 ft.length d5 := by have := congrArg (fun x => x[1]?) e6; simpa using this.symm
      subst ea eb
      obtain ⟨-, d0, d1, f0, f1⟩ := C5.two
      have C3 := C5.put2 (.slice a5 fs.length c5) (.slice b5 ft.length d5)
      obtain ⟨-, x0, x1, -, -⟩ := C3.two
      have GA3 := (GA.set (p := ⟨w.heap.size + 1, 0, none⟩) (by simp; omega) (.slice a5 fs.length c5)).set (p := ⟨w.heap.size + 1, 1, none⟩) (by simp; omega) (.slice b5 ft.length d5)
      have GB3 := (GB.set (p := ⟨w.heap.size + 1, 0, none⟩) (by simp; omega) (.slice a5 fs.length c5)).set (p := ⟨w.heap.size + 1, 1, none⟩) (by simp; omega) (.slice b5 ft.length d5)
      have T3 := own_setCell (own_setCell T5 (p := ⟨w.heap.size + 1, 0, none⟩) (by simp) (.slice a5 fs.length c5)) (p := ⟨w.heap.size + 1, 1, none⟩) (by simp) (.slice b5 ft.length d5)
      have HE : Hid (∃ u, Ending.returned (.agg #[.slice a5 fs.length c5, .slice b5 ft.length d5]) = Ending.returned u ∧ AcR ((w5.setCell ⟨w.heap.size + 1, 0, none⟩ (.slice a5 fs.length c5)).setCell ⟨w.heap.size + 1, 1, none⟩ (.slice b5 ft.length d5)) w.heap.size u fs ft ∧ Below w.heap.size w ((w5.setCell ⟨w.heap.size + 1, 0, none⟩ (.slice a5 fs.length c5)).setCell ⟨w.heap.size + 1, 1, none⟩ (.slice b5 ft.length d5))) := Lib.hid ⟨_, rfl, ⟨_, _, rfl, GA3.weakL (by omega), GB3.weakL (by omega), hap⟩, T3⟩
      clear GA3 GB3 T3 C3 GA GB hap e6 HR HP HZ HF G B C T T5 C5 hb5 HM HN
      go_wp2
      exact bodyPost_ret (v := .agg #[.slice a5 fs.length c5, .slice b5 ft.length d5]) (by simp [results, Try.results55, go_sem, x0, x1]) rfl HE.out
end Go.Proofs.Ytfchfakkbdfajaa
