/- Renumbered actions: both sides. -/
import Derived.Test.YtfchfakkbdfajaaAcQ
namespace Go.Proofs.Ytfchfakkbdfajaa
open Go.ChangeShapes Go.WideShapes Go.ChangeAt Go.RowKit

theorem renF_set {p s : List Int} {k : Nat} : renF p s (k + 1) = (renF p s k).set (pt p k) (p.getD (pt s k) 0) := rfl
theorem Gr.put' {w : World} {L g : Nat} {n cap k : Nat} {y : Int} {xs : List Int} (h : Gr w L (.slice (some ⟨g, 0, none⟩) n cap) xs) (hn : xs.length = n) (hk : k < n) :
    Gr (w.setCell ⟨g, k, none⟩ (.int .i64 y)) L (.slice (some ⟨g, 0, none⟩) n cap) (xs.set k y) := by
  subst hn
  exact h.putZ hk
theorem Rc.far {w : World} {g : Nat} {xs : List Int} (h : Rc w g xs) {p : Addr} (hp : g ≠ p.block) (u : Value) : Rc (w.setCell p u) g xs :=
  ⟨by simpa [World.setCell] using h.1, fun k hk => (World.cell?_of_block (w := w) (a := ⟨g, k, none⟩) (Below.heap_setCell w p u g hp)).trans (h.2 k hk)⟩
theorem cutR {w wx : World} {gS gT gy g g' n c c' : Nat} (bY : Box wx gy [.slice (some ⟨gS, 0, none⟩) n n, .slice (some ⟨gT, 0, none⟩) n n]) (g1 : Gr wx (w.heap.size + 1 + 1) (.slice (some ⟨gS, 0, none⟩) n n) (List.replicate n 0)) (g2 : Gr wx (w.heap.size + 1 + 1) (.slice (some ⟨gT, 0, none⟩) n n) (List.replicate n 0))
    (b1 : Box wx w.heap.size [.slice (some ⟨g, 0, none⟩) n c, .slice (some ⟨g', 0, none⟩) n c']) (b2 : Box wx (w.heap.size + 1) [.slice none 0 0, .slice none 0 0]) (t1 : Below w.heap.size w wx) (n1 : gS ≠ gT) (n2 : gy ≠ gS) (n3 : gy ≠ gT) (n4 : w.heap.size + 1 < gy) :
    ∃ gS gT gy', Value.pointer (some ⟨gy, 0, none⟩) = .pointer (some ⟨gy', 0, none⟩) ∧ Box wx gy' [.slice (some ⟨gS, 0, none⟩) n n, .slice (some ⟨gT, 0, none⟩) n n] ∧ Gr wx (w.heap.size + 1 + 1) (.slice (some ⟨gS, 0, none⟩) n n) (List.replicate n 0) ∧ Gr wx (w.heap.size + 1 + 1) (.slice (some ⟨gT, 0, none⟩) n n) (List.replicate n 0) ∧ gS ≠ gT ∧ gy' ≠ gS ∧ gy' ≠ gT ∧ w.heap.size + 1 < gy' ∧
      Box wx w.heap.size [.slice (some ⟨g, 0, none⟩) n c, .slice (some ⟨g', 0, none⟩) n c'] ∧ Box wx (w.heap.size + 1) [.slice none 0 0, .slice none 0 0] ∧ Below w.heap.size w wx :=
  ⟨gS, gT, gy, rfl, bY, g1, g2, n1, n2, n3, n4, b1, b2, t1⟩
set_option maxHeartbeats 8000000 in
theorem renum_is (a b pv : Value) (s t p : List Int) (n : Nat) (hn : n ≤ 1000000) (h0 : 0 < n) (hsl : s.length = n) (htl : t.length = n) (hpl : p.length = n) (hs : Bd s n) (ht : Bd t n) (hp : Bd p n) (w : World) (ha : Rl w a s) (hb : Rl w b t) (hpr : Rl w pv p) :
    Calls Try.prog 51 #[.agg #[a, b], pv] w fun e w' => ∃ v, e = .returned v ∧ AcR w' w.heap.size v (ren p s) (ren p t) ∧ Below w.heap.size w w' := by
  obtain ⟨g, c, rfl, hg⟩ := ha.at (by omega)
  obtain ⟨g', c', rfl, hg'⟩ := hb.at (by omega)
  obtain ⟨gp, cp, rfl, hgp⟩ := hpr.at (by omega)
  have HG := Lib.hid (And.intro hg (And.intro hg' hgp))
  have HB := Lib.hid (And.intro hs (And.intro ht hp))
  have HL := Lib.hid (And.intro hsl (And.intro htl hpl))
  have HR : Hid (renF p s n = ren p s ∧ renF p t n = ren p t) := Lib.hid (by unfold ren; rw [hpl]; exact ⟨rfl, rfl⟩)
  have HZ : Hid (renF p s 0 = List.replicate n 0 ∧ renF p t 0 = List.replicate n 0) := Lib.hid (by rw [renF, renF, hpl]; exact ⟨rfl, rfl⟩)
  rw [hsl, htl, hpl]
  generalize ren p s = rs at *
  generalize ren p t = rt at *
  clear hsl htl hpl hs ht hp ha hb hpr hg hg' hgp
  have B0 : Box ((w.alloc (.cells #[.slice (some ⟨g, 0, none⟩) n c, .slice (some ⟨g', 0, none⟩) n c'] 27)).alloc (.cells #[.slice none 0 0, .slice none 0 0] 27)) w.heap.size [.slice (some ⟨g, 0, none⟩) n c, .slice (some ⟨g', 0, none⟩) n c'] := (Box.new _ _ _).alloc _
  have C0 : Box ((w.alloc (.cells #[.slice (some ⟨g, 0, none⟩) n c, .slice (some ⟨g', 0, none⟩) n c'] 27)).alloc (.cells #[.slice none 0 0, .slice none 0 0] 27)) (w.heap.size + 1) [.slice none 0 0, .slice none 0 0] := Box.newAt (by simp) _ _
  have T0 := own_alloc (own_alloc (own_refl w) (.cells #[.slice (some ⟨g, 0, none⟩) n c, .slice (some ⟨g', 0, none⟩) n c'] 27)) (.cells #[.slice none 0 0, .slice none 0 0] 27)
  have hsz : ((w.alloc (.cells #[.slice (some ⟨g, 0, none⟩) n c, .slice (some ⟨g', 0, none⟩) n c'] 27)).alloc (.cells #[.slice none 0 0, .slice none 0 0] 27)).heap.size = w.heap.size + 1 + 1 := by simp
  have hmk := mk64 n (by omega)
  go_enter Try.func51, Try.ntmps51
  go_upto_region 1 with fail
  generalize (w.alloc (.cells #[.slice (some ⟨g, 0, none⟩) n c, .slice (some ⟨g', 0, none⟩) n c'] 27)).alloc (.cells #[.slice none 0 0, .slice none 0 0] 27) = w0 at *
  go_cut [5] (fun y wx => ∃ gS gT gy, y = .pointer (some ⟨gy, 0, none⟩) ∧ Box wx gy [.slice (some ⟨gS, 0, none⟩) n n, .slice (some ⟨gT, 0, none⟩) n n] ∧ Gr wx (w.heap.size + 1 + 1) (.slice (some ⟨gS, 0, none⟩) n n) (List.replicate n 0) ∧ Gr wx (w.heap.size + 1 + 1) (.slice (some ⟨gT, 0, none⟩) n n) (List.replicate n 0) ∧ gS ≠ gT ∧ gy ≠ gS ∧ gy ≠ gT ∧ w.heap.size + 1 < gy ∧
    Box wx w.heap.size [.slice (some ⟨g, 0, none⟩) n c, .slice (some ⟨g', 0, none⟩) n c'] ∧ Box wx (w.heap.size + 1) [.slice none 0 0, .slice none 0 0] ∧ Below w.heap.size w wx)
  case first =>
    have HG1 := Lib.hid (fun (wx : World) (h : w.heap.size + 1 + 1 ≤ wx.heap.size) => Gr.lit0 (w := wx) (L := w.heap.size + 1 + 1) rfl h n (by omega))
    go_region
    all_goals
      go_wp2_with fail
      go_meet
      apply cutR
      · repeat (first | (refine Box.newAt ?_ _ _; (simp [hsz]; done)) | with_reducible apply Box.drew | with_reducible apply Box.alloc)
      · repeat (first | (with_reducible refine Gr.lit0 ?_ (by omega) n (by omega); (simp [hsz]; done)) | with_reducible apply Gr.drew | with_reducible apply Gr.alloc)
      · repeat (first | (with_reducible refine Gr.lit0 ?_ (by omega) n (by omega); (simp [hsz]; done)) | with_reducible apply Gr.drew | with_reducible apply Gr.alloc)
      · repeat (first | with_reducible exact B0 | with_reducible apply Box.drew | with_reducible apply Box.alloc)
      · repeat (first | with_reducible exact C0 | with_reducible apply Box.drew | with_reducible apply Box.alloc)
      · repeat (first | with_reducible exact T0 | with_reducible apply own_drew | with_reducible apply own_alloc)
      all_goals omega
  case rest =>
    obtain ⟨gS, gT, gy, rfl, BY, GS, GT, hST, hyS, hyT, hgy, B, C, T⟩ := hcut
    clear B0 C0 T0 hsz w0
    go_wp2_with fail
    go_loopw [17] (fun x wr => ∃ k : Nat, k ≤ n ∧ x = (.int .i64 ((k : Int))) ∧ Gr wr (w.heap.size + 1 + 1) (.slice (some ⟨gS, 0, none⟩) n n) (renF p s k) ∧ Gr wr (w.heap.size + 1 + 1) (.slice (some ⟨gT, 0, none⟩) n n) (renF p t k) ∧
      Box wr gy [.slice (some ⟨gS, 0, none⟩) n n, .slice (some ⟨gT, 0, none⟩) n n] ∧ Box wr w.heap.size [.slice (some ⟨g, 0, none⟩) n c, .slice (some ⟨g', 0, none⟩) n c'] ∧ Box wr (w.heap.size + 1) [.slice none 0 0, .slice none 0 0] ∧ Below w.heap.size w wr) (fun x _ => n - (intOf x).toNat)
    case atStart => exact ⟨0, Nat.zero_le _, rfl, by rw [HZ.out.1]; exact GS, by rw [HZ.out.2]; exact GT, BY, B, C, T⟩
    case round =>
      obtain ⟨k, hk, rfl, GS, GT, BY, B, C, T⟩ := hrel
      by_cases hlt : k < n
      · obtain ⟨ep, hpk⟩ := HB.out.2.2.at (i := k) (by rw [HL.out.2.2]; exact hlt)
        obtain ⟨es, hsk⟩ := HB.out.1.at (i := k) (by rw [HL.out.1]; exact hlt)
        obtain ⟨et, htk⟩ := HB.out.2.1.at (i := k) (by rw [HL.out.2.1]; exact hlt)
        have cP := (HG.out.2.2.below T).2 k (by rw [HL.out.2.2]; exact hlt)
        have cS := (HG.out.1.below T).2 k (by rw [HL.out.1]; exact hlt)
        have cT := (HG.out.2.1.below T).2 k (by rw [HL.out.2.1]; exact hlt)
        have cPS := (HG.out.2.2.below T).2 (pt s k) (by rw [HL.out.2.2]; exact hsk)
        have cPT := (HG.out.2.2.below T).2 (pt t k) (by rw [HL.out.2.2]; exact htk)
        rw [ep] at cP
        rw [es] at cS
        rw [et] at cT
        obtain ⟨-, y0, y1, -, -⟩ := BY.two
        obtain ⟨-, c0, c1, -, -⟩ := B.two
        have hl1 := renF_len p s k
        have hl2 := renF_len p t k
        rw [HL.out.2.2] at hl1 hl2
        have hgS : w.heap.size + 1 < gS := by have := (GS.lt gS rfl).1; omega
        have hgT : w.heap.size + 1 < gT := by have := (GT.lt gT rfl).1; omega
        obtain ⟨_, e, _, _, cs⟩ := GS.cellsZ h0
        injection e with e; injection e with e; subst e
        obtain ⟨_, e, _, _, ct⟩ := GT.cellsZ h0
        injection e with e; injection e with e; subst e
        obtain ⟨k1, f1⟩ := cs (pt p k) hpk
        obtain ⟨k2, f2⟩ := ct (pt p k) hpk
        have R1 : Hid (renF p s (k + 1) = (renF p s k).set (pt p k) (p.getD (pt s k) 0)) := Lib.hid rfl
        have R2 : Hid (renF p t (k + 1) = (renF p t k).set (pt p k) (p.getD (pt t k) 0)) := Lib.hid rfl
        have lo1 := HG.out.1.1
        have lo2 := HG.out.2.1.1
        have lo3 := HG.out.2.2.1
        clear cs ct ep es et
        generalize p.getD (pt s k) 0 = z1 at *
        generalize p.getD (pt t k) 0 = z2 at *
        generalize pt s k = x1 at *
        generalize pt t k = x2 at *
        generalize pt p k = j at *
        have q1 : ¬ g = gS := by omega
        have q2 : ¬ g = gT := by omega
        have q3 : ¬ g' = gS := by omega
        have q4 : ¬ g' = gT := by omega
        have q5 : ¬ gp = gS := by omega
        have q6 : ¬ gp = gT := by omega
        have q7 : ¬ w.heap.size = gS := by omega
        have q8 : ¬ w.heap.size = gT := by omega
        have q9 : ¬ gS = gT := hST
        have q10 : ¬ gT = gS := fun h => hST h.symm
        go_wp2
        go_region
        have GS2 := (GS.put' hl1 hpk (y := z1)).far' (p := ⟨gT, j, none⟩) (by simp [Value.ownBlock]; exact hST) (.int .i64 z2)
        have GT2 := (GT.far' (p := ⟨gS, j, none⟩) (by simp [Value.ownBlock]; exact fun h => hST h.symm) (.int .i64 z1)).put' hl2 hpk (y := z2)
        have BY2 := (BY.far (p := ⟨gS, j, none⟩) hyS (.int .i64 z1)).far (p := ⟨gT, j, none⟩) hyT (.int .i64 z2)
        have B2 := (B.far (p := ⟨gS, j, none⟩) (by simp; omega) (.int .i64 z1)).far (p := ⟨gT, j, none⟩) (by simp; omega) (.int .i64 z2)
        have C2 := (C.far (p := ⟨gS, j, none⟩) (by simp; omega) (.int .i64 z1)).far (p := ⟨gT, j, none⟩) (by simp; omega) (.int .i64 z2)
        have T2 := own_setCell (own_setCell T (p := ⟨gS, j, none⟩) (by simp; omega) (.int .i64 z1)) (p := ⟨gT, j, none⟩) (by simp; omega) (.int .i64 z2)
        go_wp2_with fail
        go_roundw
        case rel => exact ⟨k + 1, by omega, by go_num, by rw [R1.out]; exact GS2.drew, by rw [R2.out]; exact GT2.drew, BY2.drew, B2.drew, C2.drew, own_drew T2⟩
        case measure => simp [intOf]; omega
      · obtain rfl : k = n := by omega
        rw [HR.out.1] at GS
        rw [HR.out.2] at GT
        obtain ⟨-, y0, y1, -, -⟩ := BY.two
        obtain ⟨-, d0, d1, f0, f1⟩ := C.two
        have hgS : w.heap.size + 1 < gS := by have := (GS.lt gS rfl).1; omega
        have hgT : w.heap.size + 1 < gT := by have := (GT.lt gT rfl).1; omega
        have C3 := C.put2 (.slice (some ⟨gS, 0, none⟩) k k) (.slice (some ⟨gT, 0, none⟩) k k)
        obtain ⟨-, x0, x1, -, -⟩ := C3.two
        have GS3 := (GS.set (p := ⟨w.heap.size + 1, 0, none⟩) (by simp) (.slice (some ⟨gS, 0, none⟩) k k)).set (p := ⟨w.heap.size + 1, 1, none⟩) (by simp) (.slice (some ⟨gT, 0, none⟩) k k)
        have GT3 := (GT.set (p := ⟨w.heap.size + 1, 0, none⟩) (by simp) (.slice (some ⟨gS, 0, none⟩) k k)).set (p := ⟨w.heap.size + 1, 1, none⟩) (by simp) (.slice (some ⟨gT, 0, none⟩) k k)
        have T3 := own_setCell (own_setCell T (p := ⟨w.heap.size + 1, 0, none⟩) (by simp) (.slice (some ⟨gS, 0, none⟩) k k)) (p := ⟨w.heap.size + 1, 1, none⟩) (by simp) (.slice (some ⟨gT, 0, none⟩) k k)
        have hap : ∀ b, (Value.slice (some ⟨gS, 0, none⟩) k k).ownBlock = some b → (Value.slice (some ⟨gT, 0, none⟩) k k).ownBlock ≠ some b := fun b h1 h2 => by
          simp only [Value.ownBlock, Option.some.injEq] at h1 h2
          exact hST (h1.trans h2.symm)
        clear hlt
        go_wp2
        exact bodyPost_ret (v := .agg #[.slice (some ⟨gS, 0, none⟩) k k, .slice (some ⟨gT, 0, none⟩) k k]) (by simp [results, Try.results51, go_sem, x0, x1]) rfl ⟨_, rfl, ⟨_, _, rfl, GS3.weakL (by omega), GT3.weakL (by omega), hap⟩, T3⟩
end Go.Proofs.Ytfchfakkbdfajaa
