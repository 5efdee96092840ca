/-
  A box that holds a date and may be written.
-/
import Derived.Test.YtlhkfhgnlopejaaDoorDt1
namespace Go.Proofs.YtlhkfhgnlopejaaDoor.Dt
open Go.RowKit DtPl
set_option linter.unusedSimpArgs false
set_option linter.unusedVariables false

/-- block b holds a date and may be written -/
def F4 (W : World) (b : Nat) : Prop := W.frozen? ⟨b, 0, none⟩ = false ∧ W.frozen? ⟨b, 1, none⟩ = false ∧ W.frozen? ⟨b, 2, none⟩ = false ∧ W.frozen? ⟨b, 3, none⟩ = false
theorem F4.below {W w' : World} {b : Nat} (hlt : b < W.heap.size) (h : F4 W b) (hb : Below W.heap.size W w') : F4 w' b :=
  ⟨(hb.frozen (p := ⟨b, 0, none⟩) hlt).trans h.1, (hb.frozen (p := ⟨b, 1, none⟩) hlt).trans h.2.1, (hb.frozen (p := ⟨b, 2, none⟩) hlt).trans h.2.2.1, (hb.frozen (p := ⟨b, 3, none⟩) hlt).trans h.2.2.2⟩
/-- four stores into a new block -/
theorem set4 {W w1 : World} {b : Nat} {v0 v1 v2 v3 : Value} (h : Below W.heap.size W w1) (hb : W.heap.size ≤ b) : Below W.heap.size W ((((w1.setCell ⟨b, 0, none⟩ v0).setCell ⟨b, 1, none⟩ v1).setCell ⟨b, 2, none⟩ v2).setCell ⟨b, 3, none⟩ v3) :=
  (((h.setCell (p := ⟨b, 0, none⟩) hb _).setCell (p := ⟨b, 1, none⟩) hb _).setCell (p := ⟨b, 2, none⟩) hb _).setCell (p := ⟨b, 3, none⟩) hb _

/-- a box that may still be written -/
def D4F (W : World) (b : Nat) (y m d : Int) (c : Bool) : Prop := D4 W b y m d c ∧ F4 W b
theorem D4F.below {W w' : World} {b : Nat} {y m d : Int} {c : Bool} (hb : Below W.heap.size W w') (h : D4F W b y m d c) : D4F w' b y m d c := ⟨h.1.below hb, F4.below h.1.1 h.2 hb⟩
theorem D4F.new (w : World) (y m d : Int) (c : Bool) (t : TypeId) : D4F (w.alloc (.cells #[.int .i64 y, .int .i64 m, .int .i64 d, .bool c] t)) w.heap.size y m d c :=
  ⟨D4.new w y m d c t, by simp, by simp, by simp, by simp⟩
theorem D4F.newD (w : World) (y m d : Int) (c : Bool) (t : TypeId) : D4F (w.alloc (.cells #[.int .i64 y, .int .i64 m, .int .i64 d, .bool c] t)).drew w.heap.size y m d c := D4F.new w y m d c t
theorem c_ne {W : World} {b i j : Nat} {v : Value} (h : i ≠ j) : (W.setCell ⟨b, i, none⟩ v).cell? ⟨b, j, none⟩ = W.cell? ⟨b, j, none⟩ := World.cell?_setCell_other W _ _ _ (fun e => h (by cases e; rfl))
theorem D4F.set4 {W : World} {b : Nat} {y m d : Int} {c : Bool} (h : D4F W b y m d c) (y' m' d' : Int) (c' : Bool) : D4 ((((W.setCell ⟨b, 0, none⟩ (.int .i64 y')).setCell ⟨b, 1, none⟩ (.int .i64 m')).setCell ⟨b, 2, none⟩ (.int .i64 d')).setCell ⟨b, 3, none⟩ (.bool c')) b y' m' d' c' := by
  obtain ⟨⟨hl, h0, h1, h2, h3⟩, _⟩ := h
  refine ⟨by simpa [World.setCell] using hl, ?_, ?_, ?_, ?_⟩
  · rw [c_ne (by decide), c_ne (by decide), c_ne (by decide)]; exact World.cell?_setCell_same _ _ _ h0
  · rw [c_ne (by decide), c_ne (by decide)]; exact World.cell?_setCell_same _ _ _ (by rw [c_ne (by decide)]; exact h1)
  · rw [c_ne (by decide)]; exact World.cell?_setCell_same _ _ _ (by rw [c_ne (by decide), c_ne (by decide)]; exact h2)
  · exact World.cell?_setCell_same _ _ _ (by rw [c_ne (by decide), c_ne (by decide), c_ne (by decide)]; exact h3)
/-- a new box with four stores -/
theorem new4 (W : World) (y m d : Int) (c : Bool) (t : TypeId) :
    Below W.heap.size W (((((W.alloc (.cells #[.int .i64 0, .int .i64 0, .int .i64 0, .bool false] t)).setCell ⟨W.heap.size, 0, none⟩ (.int .i64 y)).setCell ⟨W.heap.size, 1, none⟩ (.int .i64 m)).setCell ⟨W.heap.size, 2, none⟩ (.int .i64 d)).setCell ⟨W.heap.size, 3, none⟩ (.bool c)) ∧
    D4 (((((W.alloc (.cells #[.int .i64 0, .int .i64 0, .int .i64 0, .bool false] t)).setCell ⟨W.heap.size, 0, none⟩ (.int .i64 y)).setCell ⟨W.heap.size, 1, none⟩ (.int .i64 m)).setCell ⟨W.heap.size, 2, none⟩ (.int .i64 d)).setCell ⟨W.heap.size, 3, none⟩ (.bool c)) W.heap.size y m d c :=
  ⟨set4 (box_below W _) (Nat.le_refl _), D4F.set4 (D4F.new W 0 0 0 false t) y m d c⟩
end Go.Proofs.YtlhkfhgnlopejaaDoor.Dt
