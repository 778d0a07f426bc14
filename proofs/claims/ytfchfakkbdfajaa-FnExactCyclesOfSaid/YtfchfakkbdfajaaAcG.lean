/- Forms from points: the model. -/
import Derived.Test.YtfchfakkbdfajaaAcF
namespace Go.Proofs.Ytfchfakkbdfajaa
open Go.ChangeShapes Go.WideShapes Go.ChangeAt Go.RowKit

theorem cutF {w wx : World} {g g' n c c' gN N cap : Nat} {ad : Option Addr} {ms : List Int} (g1 : Gr wx (w.heap.size + 1 + 1) (.slice (some ⟨gN, 0, none⟩) n n) (List.replicate n 0)) (g2 : Gr wx (w.heap.size + 1 + 1) (.slice ad N cap) ms) (hne : (Value.slice ad N cap).ownBlock ≠ some gN)
    (b1 : Box wx w.heap.size [.slice (some ⟨g, 0, none⟩) n c, .slice (some ⟨g', 0, none⟩) n c']) (b2 : Box wx (w.heap.size + 1) [.slice none 0 0, .slice none 0 0]) (t1 : Below w.heap.size w wx) :
    ∃ gN' ad' cap', Value.slice ad N cap = .slice ad' N cap' ∧ Value.slice (some ⟨gN, 0, none⟩) n n = .slice (some ⟨gN', 0, none⟩) n n ∧ Gr wx (w.heap.size + 1 + 1) (.slice (some ⟨gN', 0, none⟩) n n) (List.replicate n 0) ∧ Gr wx (w.heap.size + 1 + 1) (.slice ad' N cap') ms ∧ (Value.slice ad' N cap').ownBlock ≠ some gN' ∧
      Box wx w.heap.size [.slice (some ⟨g, 0, none⟩) n c, .slice (some ⟨g', 0, none⟩) n c'] ∧ Box wx (w.heap.size + 1) [.slice none 0 0, .slice none 0 0] ∧ Below w.heap.size w wx :=
  ⟨gN, ad, cap, rfl, rfl, g1, g2, hne, b1, b2, t1⟩
set_option maxHeartbeats 8000000 in
theorem l10Form_is (a b : Value) (s t : List Int) (n : Nat) (hn : n ≤ 1000000) (h0 : 0 < n) (hs : Pm s n) (ht : Pm t n) (i : Nat) (hi : i < n) (w : World) (ha : Rl w a s) (hb : Rl w b t) :
    Calls Try.prog 53 #[.agg #[a, b], (.int .i64 ((i : Int)))] w fun e w' => ∃ v, e = .returned v ∧ AcR w' w.heap.size v (frm s t i n s) (frm s t i n t) ∧ Below w.heap.size w w' := by
  have hms := met_ps hs ht hi
  have HP := Lib.hid (fun w' (h : Below w.heap.size w w') => l10Met_is a b s t n hn hs ht i hi w' (ha.below h) (hb.below h))
  have HR := Lib.hid (fun pv w' (h : Below w.heap.size w w') hp => l10Renum_is a b pv s t (num (met s t i n) n) n hn h0 hs.len ht.len (num_len _ _) hs.b ht.b (num_bd hms h0) w' (ha.below h) (hb.below h) hp)
  have HF : Hid (frm s t i n s = ren (num (met s t i n) n) s ∧ frm s t i n t = ren (num (met s t i n) n) t) := Lib.hid ⟨rfl, rfl⟩
  have HZ : Hid (numF (met s t i n) n 0 = List.replicate n 0 ∧ numF (met s t i n) n (met s t i n).length = num (met s t i n) n) := Lib.hid ⟨rfl, rfl⟩
  obtain ⟨g, c, rfl, _⟩ := ha.at (by rw [hs.len]; omega)
  obtain ⟨g', c', rfl, _⟩ := hb.at (by rw [ht.len]; omega)
  rw [hs.len, ht.len] at *
  generalize frm s t i n s = fs at *
  generalize frm s t i n t = ft at *
  generalize met s t i n = ms at *
  have HM := Lib.hid hms
  have hml := hms.le
  clear hs ht ha hb hms
  have B0 : Box ((w.alloc (.cells #[.slice (some ⟨g, 0, none⟩) n c, .slice (some ⟨g', 0, none⟩) n c'] 27)).alloc (.cells #[.slice none 0 0, .slice none 0 0] 27)) w.heap.size [.slice (some ⟨g, 0, none⟩) n c, .slice (some ⟨g', 0, none⟩) n c'] := (Box.new _ _ _).alloc _
  have C0 : Box ((w.alloc (.cells #[.slice (some ⟨g, 0, none⟩) n c, .slice (some ⟨g', 0, none⟩) n c'] 27)).alloc (.cells #[.slice none 0 0, .slice none 0 0] 27)) (w.heap.size + 1) [.slice none 0 0, .slice none 0 0] := Box.newAt (by simp) _ _
  have T0 := own_alloc (own_alloc (own_refl w) (.cells #[.slice (some ⟨g, 0, none⟩) n c, .slice (some ⟨g', 0, none⟩) n c'] 27)) (.cells #[.slice none 0 0, .slice none 0 0] 27)
  have hsz : ((w.alloc (.cells #[.slice (some ⟨g, 0, none⟩) n c, .slice (some ⟨g', 0, none⟩) n c'] 27)).alloc (.cells #[.slice none 0 0, .slice none 0 0] 27)).heap.size = w.heap.size + 1 + 1 := by simp
  have hmk := mk64 n (by omega)
  obtain ⟨N, hN⟩ : ∃ N, ms.length = N := ⟨_, rfl⟩
  have HN := Lib.hid hN
  rw [hN] at hml HZ
  clear hN
  have HP2 : Hid (∀ w', Below w.heap.size w w' → Calls Try.prog 61 #[.agg #[.slice (some ⟨g, 0, none⟩) n c, .slice (some ⟨g', 0, none⟩) n c'], (.int .i64 ((i : Int)))] w' fun e w'' => ∃ ad cap, e = .returned (.slice ad N cap) ∧ Gr w'' w'.heap.size (.slice ad N cap) ms ∧ Below w'.heap.size w' w'') := Lib.hid (fun w' h => (HP.out w' h).mono fun e w'' ⟨v, he, hg, hb⟩ => by
    obtain ⟨ad, cap, e2⟩ := hg.shape
    rw [HN.out] at e2
    subst e2
    exact ⟨ad, cap, he, hg, hb⟩)
  clear HP
  go_enter Try.func53, Try.ntmps53
  go_upto_region 1 with fail
  generalize (w.alloc (.cells #[.slice (some ⟨g, 0, none⟩) n c, .slice (some ⟨g', 0, none⟩) n c'] 27)).alloc (.cells #[.slice none 0 0, .slice none 0 0] 27) = w0 at *
  obtain ⟨-, c0, c1, -, -⟩ := B0.two
  have hq1 : w.heap.size < w0.heap.size := by omega
  have hq2 : w.heap.size + 1 < w0.heap.size := by omega
  go_cut [5, 6] (fun v q wx => ∃ gN ad cap, v = .slice ad N cap ∧ q = .slice (some ⟨gN, 0, none⟩) n n ∧ Gr wx (w.heap.size + 1 + 1) (.slice (some ⟨gN, 0, none⟩) n n) (List.replicate n 0) ∧ Gr wx (w.heap.size + 1 + 1) (.slice ad N cap) ms ∧ (Value.slice ad N cap).ownBlock ≠ some gN ∧
    Box wx w.heap.size [.slice (some ⟨g, 0, none⟩) n c, .slice (some ⟨g', 0, none⟩) n c'] ∧ Box wx (w.heap.size + 1) [.slice none 0 0, .slice none 0 0] ∧ Below w.heap.size w wx)
  case first =>
    go_region_held3 (fun w' => w'.cell? ⟨w.heap.size, 0, none⟩ = some (.slice (some ⟨g, 0, none⟩) n c) ∧ w'.cell? ⟨w.heap.size, 1, none⟩ = some (.slice (some ⟨g', 0, none⟩) n c')) (go_keep)
      (first
        | (go_at_call 61; (with_reducible refine (HP2.out _ (by repeat (first | with_reducible exact T0 | with_reducible apply own_drew | with_reducible apply own_alloc))).mono ?_); rintro e w2 ⟨ad2, cap2, rfl, GV, hb2⟩; have B2 := (by first | exact Box.below (Box.drew B0) hb2 | exact Box.below (Box.alloc (Box.drew B0) _) hb2 | exact Box.below (Box.drew (Box.alloc B0 _)) hb2 : Box w2 w.heap.size [.slice (some ⟨g, 0, none⟩) n c, .slice (some ⟨g', 0, none⟩) n c']); obtain ⟨-, c20, c21, -, -⟩ := B2.two))
    · go_wp2_with fail
      go_meet
      have G2 := GV.own (own_alloc (own_refl w2) (.cells (Array.replicate n (.int .i64 0)) 2))
      have hz0 : w0.drew.heap.size = w.heap.size + 1 + 1 := hsz
      have hz2 := hb2.size
      rw [hz0] at G2 hz2
      exact cutF (Gr.lit0 rfl (by omega) n (by omega)) G2 (fun h => by have := (GV.lt _ h).2; omega) (B2.alloc _) (((C0.drew).below hb2).alloc _) (own_alloc (own_trans (own_drew T0) hb2) _)
    · go_wp2_with fail
      go_meet
      have hz1 : (w0.alloc (.cells (Array.replicate n (.int .i64 0)) 2)).drew.heap.size = w.heap.size + 1 + 1 + 1 := by
        show (w0.alloc (.cells (Array.replicate n (.int .i64 0)) 2)).heap.size = _
        simp [hsz]
      have G1 := Gr.drew (Gr.lit0 (w := w0) (L := w.heap.size + 1 + 1) hsz (by omega) n (by omega))
      have GV1 := GV
      rw [hz1] at GV1
      exact cutF (G1.own hb2) (GV1.weakL (by omega)) (fun h => by have := (GV1.lt _ h).1; omega) B2 (((C0.alloc _).drew).below hb2) (own_trans (own_drew (own_alloc T0 _)) hb2)
  case rest =>
    obtain ⟨gN, ad, cap, rfl, rfl, G, GV, hne, B, C, T⟩ := hcut
    clear B0 C0 T0 hsz c0 c1 hq1 hq2 HP2
    go_wp2_with fail
    go_loopw [7] (fun x wr => ∃ k : Nat, k ≤ N ∧ x = (.int .i64 ((k : Int))) ∧ Gr wr (w.heap.size + 1 + 1) (.slice (some ⟨gN, 0, none⟩) n n) (numF ms n k) ∧ Gr wr (w.heap.size + 1 + 1) (.slice ad N cap) ms ∧
      Box wr w.heap.size [.slice (some ⟨g, 0, none⟩) n c, .slice (some ⟨g', 0, none⟩) n c'] ∧ Box wr (w.heap.size + 1) [.slice none 0 0, .slice none 0 0] ∧ Below w.heap.size w wr) (fun x _ => N - (intOf x).toNat)
    case atStart => exact ⟨0, Nat.zero_le _, rfl, by rw [HZ.out.1]; exact G, GV, B, C, T⟩
    case round =>
      clear G GV B C T
      obtain ⟨k, hk, rfl, G, GV, B, C, T⟩ := hrel
      by_cases hlt : k < N
      · obtain ⟨em, hmk⟩ := HM.out.b.at (i := k) (by rw [HN.out]; exact hlt)
        obtain ⟨gv, rfl, _, _, hcv⟩ := GV.cellsZ (by omega)
        have cv := (hcv k hlt).1
        rw [em] at cv
        have hnl := numF_len ms n k
        obtain ⟨_, e, _, _, hcn⟩ := G.cellsZ h0
        injection e with e; injection e with e; subst e
        obtain ⟨cn, fn⟩ := hcn (pt ms k) hmk
        have HS : Hid (numF ms n (k + 1) = (numF ms n k).set (pt ms k) (k : Int)) := Lib.hid rfl
        clear hcv hcn em
        generalize pt ms k = j at *
        have G2 := G.put' hnl hmk (y := (k : Int))
        have GV2 := GV.far' (p := ⟨gN, j, none⟩) hne (.int .i64 ((k : Int)))
        have hgN : w.heap.size + 1 < gN := by have := (G.lt gN rfl).1; omega
        have B2 := B.far (p := ⟨gN, j, none⟩) (by simp; omega) (.int .i64 ((k : Int)))
        have C2 := C.far (p := ⟨gN, j, none⟩) (by simp; omega) (.int .i64 ((k : Int)))
        have T2 := own_setCell T (p := ⟨gN, j, none⟩) (by simp; omega) (.int .i64 ((k : Int)))
        go_wp2
        go_roundw
        case rel => exact ⟨k + 1, by omega, by go_num, by rw [HS.out]; exact G2, GV2, B2, C2, T2⟩
        case measure => simp [intOf]; omega
      · obtain rfl : k = N := by omega
        rw [HZ.out.2] at G
        obtain ⟨-, c0, c1, -, -⟩ := B.two
        clear hlt GV
        go_wp2_with fail
        refine (HR.out _ _ T G.rl).mono ?_
        rintro e w5 ⟨v5, rfl, hA5, hb5⟩
        rw [← HF.out.1, ← HF.out.2] at hA5
        have T5 := own_trans T hb5
        have C5 := C.below hb5
        have hzr := C.1
        obtain ⟨a5, c5, b5, d5, e5⟩ := hA5.shape
        subst e5
        obtain ⟨a6, b6, e6, GA, GB, hap⟩ := hA5
        injection e6 with e6
        have ea : a6 = .slice a5 fs.length c5 := by have := congrArg (fun x => x[0]?) e6; simpa using this.symm
        have eb : b6 = .slice b5 ft.length d5 := by have := congrArg (fun x => x[1]?) e6; simpa using this.symm
        subst ea eb
        obtain ⟨-, d0, d1, f0, f1⟩ := C5.two
        have C3 := C5.put2 (.slice a5 fs.length c5) (.slice b5 ft.length d5)
        obtain ⟨-, x0, x1, -, -⟩ := C3.two
        have GA3 := (GA.set (p := ⟨w.heap.size + 1, 0, none⟩) (by simp; omega) (.slice a5 fs.length c5)).set (p := ⟨w.heap.size + 1, 1, none⟩) (by simp; omega) (.slice b5 ft.length d5)
        have GB3 := (GB.set (p := ⟨w.heap.size + 1, 0, none⟩) (by simp; omega) (.slice a5 fs.length c5)).set (p := ⟨w.heap.size + 1, 1, none⟩) (by simp; omega) (.slice b5 ft.length d5)
        have T3 := own_setCell (own_setCell T5 (p := ⟨w.heap.size + 1, 0, none⟩) (by simp) (.slice a5 fs.length c5)) (p := ⟨w.heap.size + 1, 1, none⟩) (by simp) (.slice b5 ft.length d5)
        have HE : Hid (∃ u, Ending.returned (.agg #[.slice a5 fs.length c5, .slice b5 ft.length d5]) = Ending.returned u ∧ AcR ((w5.setCell ⟨w.heap.size + 1, 0, none⟩ (.slice a5 fs.length c5)).setCell ⟨w.heap.size + 1, 1, none⟩ (.slice b5 ft.length d5)) w.heap.size u fs ft ∧ Below w.heap.size w ((w5.setCell ⟨w.heap.size + 1, 0, none⟩ (.slice a5 fs.length c5)).setCell ⟨w.heap.size + 1, 1, none⟩ (.slice b5 ft.length d5))) := Lib.hid ⟨_, rfl, ⟨_, _, rfl, GA3.weakL (by omega), GB3.weakL (by omega), hap⟩, T3⟩
        clear GA3 GB3 T3 C3 GA GB hap e6 HR HZ HF G B C T T5 C5 hb5 HM HN
        go_wp2
        exact bodyPost_ret (v := .agg #[.slice a5 fs.length c5, .slice b5 ft.length d5]) (by simp [results, Try.results53, go_sem, x0, x1]) rfl HE.out
end Go.Proofs.Ytfchfakkbdfajaa
