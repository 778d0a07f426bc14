/- impl.splitNumbers: contract. -/
import Derived.Test.YtfgbmddmmgipnaaDoorPiM
import Derived.Test.YtfgbmddmmgipnaaDoorShh
import Derived.Test.YtfgbmddmmgipnaaDoorPTOf
import Derived.Shelf.Strings.Split
import Derived.Lib.AtoiErrMem
namespace Go.Proofs.YtfgbmddmmgipnaaDoor
open Go.ChangeShapes Go.WideShapes Go.ChangeAt Go.RowKit

/-- A variable that holds an error or nothing. -/
def ErrAt (w : World) (g : Nat) : Prop := ∃ ev, w.cell? ⟨g, 0, none⟩ = some ev ∧ (ev = .nilIface ∨ ∃ te pe, ev = .iface te pe)
theorem ErrAt.below {w w' : World} {g : Nat} (h : ErrAt w g) (hb : Below w.heap.size w w') : ErrAt w' g := by
  obtain ⟨ev, h1, h2⟩ := h
  exact ⟨ev, (hb.cell (p := ⟨g, 0, none⟩) (World.block_lt_of_cell? w _ h1)).trans h1, h2⟩
/-- What the library's readers ask of the world. -/
def Lb (w : World) : Prop := PT w ∧ (∃ m : Int, w.cell? ⟨2, 0, none⟩ = some (.int .i64 m)) ∧ ErrAt w 3 ∧ ErrAt w 4
theorem Lb.below {w w' : World} (h : Lb w) (hb : Below w.heap.size w w') : Lb w' := by
  obtain ⟨h1, ⟨m, h2⟩, h3, h4⟩ := h
  exact ⟨h1.below hb, ⟨m, (hb.cell (p := ⟨2, 0, none⟩) (World.block_lt_of_cell? w _ h2)).trans h2⟩, h3.below hb, h4.below hb⟩
theorem splitN_any (s sep : ByteArray) (n : Nat) (w : World) (h : Lb w) (hs : s.size ≤ 1048576) (h1 : 1 ≤ sep.size) (hn : 1 ≤ n) (hn63 : n ≤ 1000) :
    Calls Tryd.prog 27 #[.string s, .string sep, (.int .i64 n)] w fun e w' =>
      e = .returned (.slice (some ⟨w.heap.size, 0, none⟩) (Lib.splitB sep 0 (min n (s.size + 1) - 1) s).length (min n (s.size + 1))) ∧ w' = w.alloc (.cells (Lib.cellsOf (Lib.splitB sep 0 (min n (s.size + 1) - 1) s) (min n (s.size + 1))) 9) := by
  obtain ⟨_, ⟨m, hm⟩, _⟩ := h
  exact Any.strings_SplitN { laysM147 with } laysM147.i9 s sep n m w (by omega) hm h1 hn (by omega)
theorem parse_yes (s : ByteArray) (hs : s.size ≤ 1048576) (v : Int) (h : Lib.parseIntB 64 (toL s) = .ok v) (w : World) :
    Calls Tryd.prog 48 #[.string s, (.int .i64 10), (.int .i64 64)] w fun e w' => e = .returned (.tuple #[(.int .i64 v), .nilIface]) ∧ Below w.heap.size w w' := by
  refine (strconv_ParseInt_10_at64_ok s (by omega) v h w).mono ?_
  rintro e w' ⟨rfl, rfl | ⟨t, rfl⟩⟩
  · exact ⟨rfl, Below.refl _ _⟩
  · exact ⟨rfl, Lib.bytesWorld_below _ _ _⟩
theorem parse_no (s : ByteArray) (hs : s.size ≤ 1048576) (h : ∀ v, Lib.parseIntB 64 (toL s) ≠ .ok v) (w : World) (hL : Lb w) :
    Calls Tryd.prog 48 #[.string s, (.int .i64 10), (.int .i64 64)] w fun e w' => ∃ x te pe, e = .returned (.tuple #[(.int .i64 x), .iface te pe]) ∧ Below w.heap.size w w' := by
  obtain ⟨_, _, ⟨e1, h1, h2⟩, ⟨e2, h3, h4⟩⟩ := hL
  rcases hp : Lib.parseIntB 64 (toL s) with v | _ | _
  · exact absurd hp (h v)
  · refine (strconv_ParseInt_10_at64_bad s (by omega) ⟨h, fun e => by rw [show Lib.parseIntB 64 s.data.toList = _ from hp] at e; cases e⟩ e1 w h1 h2).mono ?_
    rintro e w' ⟨N, rfl, _, _, hb⟩
    exact ⟨_, _, _, rfl, hb⟩
  · refine (strconv_ParseInt_10_at64_range s (by omega) hp e2 w h3 h4).mono ?_
    rintro e w' ⟨N, rfl, _, _, hb⟩
    exact ⟨_, _, _, rfl, hb⟩
end Go.Proofs.YtfgbmddmmgipnaaDoor
