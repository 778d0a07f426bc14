/- Actions: two lists in blocks of their own; the laws' helpers over them. -/
import Derived.Test.YtdcomnnpnhinfaaToS
import Derived.Test.YtdcomnnpnhinfaaSS
import Derived.Test.YtdcomnnpnhinfaaAcM
import Derived.OwnWalk
namespace Go.Proofs.Ytdcomnnpnhinfaa
open Go.ChangeShapes Go.WideShapes Go.ChangeAt Go.RowKit

/-- block g reads as the list xs -/
def Rc (w : World) (g : Nat) (xs : List Int) : Prop := g < w.heap.size ∧ ∀ k, k < xs.length → w.cell? ⟨g, k, none⟩ = some (.int .i64 (xs.getD k 0))
theorem Rc.below {w w' : World} {g : Nat} {xs : List Int} (h : Rc w g xs) (hb : Below w.heap.size w w') : Rc w' g xs :=
  ⟨Nat.lt_of_lt_of_le h.1 hb.size, fun k hk => (hb.cell (p := ⟨g, k, none⟩) h.1).trans (h.2 k hk)⟩
theorem Rc.low {w w' : World} {g L : Nat} {xs : List Int} (h : Rc w g xs) (hb : Below L w w') (hg : g < L) : Rc w' g xs :=
  ⟨Nat.lt_of_lt_of_le h.1 hb.size, fun k hk => (hb.cell (p := ⟨g, k, none⟩) hg).trans (h.2 k hk)⟩
theorem Rc.alloc {w : World} {g : Nat} {xs : List Int} (h : Rc w g xs) (o : Obj) : Rc (w.alloc o) g xs := h.below (own_alloc (own_refl w) o)
theorem Rc.drew {w : World} {g : Nat} {xs : List Int} (h : Rc w g xs) : Rc w.drew g xs := h
theorem Rc.drewN {w : World} {g : Nat} {xs : List Int} (h : Rc w g xs) (n : Nat) : Rc (w.drewN n) g xs := h
/-- the value v reads as the list xs -/
def Rl (w : World) (v : Value) (xs : List Int) : Prop := ∃ ad cap, v = .slice ad xs.length cap ∧ (0 < xs.length → ∃ g, ad = some ⟨g, 0, none⟩ ∧ Rc w g xs)
theorem Rl.below {w w' : World} {v : Value} {xs : List Int} (h : Rl w v xs) (hb : Below w.heap.size w w') : Rl w' v xs := by
  obtain ⟨ad, cap, e, h⟩ := h
  exact ⟨ad, cap, e, fun h0 => by obtain ⟨g, e, hr⟩ := h h0; exact ⟨g, e, hr.below hb⟩⟩
theorem Rl.alloc {w : World} {v : Value} {xs : List Int} (h : Rl w v xs) (o : Obj) : Rl (w.alloc o) v xs := h.below (own_alloc (own_refl w) o)
theorem Rl.drew {w : World} {v : Value} {xs : List Int} (h : Rl w v xs) : Rl w.drew v xs := h
theorem Gr.rl {w : World} {L : Nat} {v : Value} {xs : List Int} (h : Gr w L v xs) : Rl w v xs := by
  obtain ⟨ad, cap, rfl⟩ := h.shape
  refine ⟨ad, cap, rfl, fun h0 => ?_⟩
  obtain ⟨g, e, _, hg, hc⟩ := h.cellsZ h0
  exact ⟨g, e, hg, fun k hk => (hc k hk).1⟩
theorem Gr.weakL {w : World} {L L' : Nat} {v : Value} {xs : List Int} (h : Gr w L v xs) (hL : L' ≤ L) : Gr w L' v xs := by
  obtain ⟨h1, h2⟩ := h
  refine ⟨h1, ?_⟩
  rcases h2 with h2 | ⟨g, cap, cur, e, hg, h3⟩
  · exact .inl h2
  · exact .inr ⟨g, cap, cur, e, Nat.le_trans hL hg, h3⟩
/-- the value u is an action's two lists, each in a block of its own -/
def AcR (w : World) (L : Nat) (u : Value) (s t : List Int) : Prop :=
  ∃ a b, u = .agg #[a, b] ∧ Gr w L a s ∧ Gr w L b t ∧ ∀ g, a.ownBlock = some g → b.ownBlock ≠ some g
theorem AcR.own {w w' : World} {L : Nat} {u : Value} {s t : List Int} (h : AcR w L u s t) (hb : Below w.heap.size w w') : AcR w' L u s t := by
  obtain ⟨a, b, e, h1, h2, h3⟩ := h
  exact ⟨a, b, e, h1.own hb, h2.own hb, h3⟩
theorem AcR.weak {w : World} {L L' : Nat} {u : Value} {s t : List Int} (h : AcR w L u s t) (hL : L' ≤ L) : AcR w L' u s t := by
  obtain ⟨a, b, e, h1, h2, h3⟩ := h
  exact ⟨a, b, e, h1.weakL hL, h2.weakL hL, h3⟩
/-- the value u reads as an action's two lists -/
def Ac (w : World) (u : Value) (s t : List Int) : Prop := ∃ a b, u = .agg #[a, b] ∧ Rl w a s ∧ Rl w b t
theorem AcR.ac {w : World} {L : Nat} {u : Value} {s t : List Int} (h : AcR w L u s t) : Ac w u s t := by
  obtain ⟨a, b, e, h1, h2, _⟩ := h
  exact ⟨a, b, e, h1.rl, h2.rl⟩
theorem Ac.below {w w' : World} {u : Value} {s t : List Int} (h : Ac w u s t) (hb : Below w.heap.size w w') : Ac w' u s t := by
  obtain ⟨a, b, e, h1, h2⟩ := h
  exact ⟨a, b, e, h1.below hb, h2.below hb⟩
theorem AcR.shape {w : World} {L : Nat} {u : Value} {s t : List Int} (h : AcR w L u s t) : ∃ a c b d, u = .agg #[.slice a s.length c, .slice b t.length d] := by
  obtain ⟨a, b, rfl, h1, h2, _⟩ := h
  obtain ⟨_, _, rfl⟩ := h1.shape
  obtain ⟨_, _, rfl⟩ := h2.shape
  exact ⟨_, _, _, _, rfl⟩
theorem AcR.drew {w : World} {L : Nat} {u : Value} {s t : List Int} (h : AcR w L u s t) : AcR w.drew L u s t := h
theorem AcR.nil (w : World) (L : Nat) : AcR w L (.agg #[.slice none 0 0, .slice none 0 0]) [] [] :=
  ⟨_, _, rfl, Gr.nil _ _, Gr.nil _ _, fun g h => by simp [Value.ownBlock] at h⟩

/-- the first k numbers, then zeros -/
def prt (xs : List Int) (k : Nat) : List Int := xs.take k ++ List.replicate (xs.length - k) 0
theorem prt_len (xs : List Int) (k : Nat) (h : k ≤ xs.length) : (prt xs k).length = xs.length := by simp [prt]; omega
theorem prt_set (xs : List Int) (k : Nat) (hk : k < xs.length) (x : Int) (hx : xs.getD k 0 = x) : (prt xs k).set k x = prt xs (k + 1) := by
  subst hx
  apply List.ext_getElem
  · simp [prt]; omega
  · intro i h1 h2
    simp only [prt, List.getElem_set, List.getElem_append, List.getElem_take, List.length_take, List.getElem_replicate]
    by_cases e : k = i
    · subst e
      simp [hk, List.getD]
      omega
    · rw [if_neg e]
      by_cases h3 : i < k
      · rw [dif_pos (by omega), dif_pos (by omega)]
      · rw [dif_neg (by omega), dif_neg (by omega)]
theorem Gr.lit0 {w : World} {L g : Nat} (hg : w.heap.size = g) (hL : L ≤ g) (n : Nat) (hn : n ≤ 1048576) :
    Gr (w.alloc (.cells (Array.replicate n (.int .i64 0)) 2)) L (.slice (some ⟨g, 0, none⟩) n n) (List.replicate n 0) := by
  subst hg
  have h := World.ownsRow_lit (e := 2) (size := 1) (base := L) w (Array.replicate n (.int .i64 0)) n hL (by unfold maxLen; omega) (by simp)
  unfold Gr
  rw [List.length_replicate]
  simpa using h
theorem mk64 (n : Nat) (hn : n ≤ 1048576) (w : World) : (Instr.makeSlice 46 (.int .i64 n) (.int .i64 n)).run Try.prog w =
    .ok (.slice (some ⟨w.heap.size, 0, none⟩) n n) (w.alloc (.cells (Array.replicate n (.int .i64 0)) 2)) := by
  have h := made64T n hn w
  simpa using h
end Go.Proofs.Ytdcomnnpnhinfaa
