/-
  A box that holds a range and may be written.
-/
import Derived.Test.YtiekplndcpcdkaaDoorPgF
namespace Go.Proofs.YtiekplndcpcdkaaDoor.PgBx
open Go.RowKit Pg PgF
set_option linter.unusedSimpArgs false
set_option linter.unusedVariables false
def F3 (W : World) (b : Nat) : Prop := W.frozen? ⟨b, 0, none⟩ = false ∧ W.frozen? ⟨b, 1, none⟩ = false ∧ W.frozen? ⟨b, 2, none⟩ = false
def P3F (W : World) (b : Nat) (l : ByteArray) (f t : Int) : Prop := P3 W b l f t ∧ F3 W b
theorem P3F.below {W w' : World} {b : Nat} {l : ByteArray} {f t : Int} (h : P3F W b l f t) (hb : Below W.heap.size W w') : P3F w' b l f t :=
  ⟨h.1.below hb, (hb.frozen (p := ⟨b, 0, none⟩) h.1.1).trans h.2.1, (hb.frozen (p := ⟨b, 1, none⟩) h.1.1).trans h.2.2.1, (hb.frozen (p := ⟨b, 2, none⟩) h.1.1).trans h.2.2.2⟩
theorem P3F.new (w : World) (l : ByteArray) (f t : Int) (ty : TypeId) : P3F (w.alloc (.cells #[.string l, .int .i64 f, .int .i64 t] ty)) w.heap.size l f t :=
  ⟨P3.new w l f t ty, by simp, by simp, by simp⟩
/-- three stores into a new block -/
theorem set3 {n : Nat} {W w1 : World} {b : Nat} {v0 v1 v2 : Value} (h : Below n W w1) (hb : n ≤ b) : Below n W (((w1.setCell ⟨b, 0, none⟩ v0).setCell ⟨b, 1, none⟩ v1).setCell ⟨b, 2, none⟩ v2) :=
  ((h.setCell (p := ⟨b, 0, none⟩) hb _).setCell (p := ⟨b, 1, none⟩) hb _).setCell (p := ⟨b, 2, none⟩) hb _
theorem c_ne {W : World} {b i j : Nat} {v : Value} (h : i ≠ j) : (W.setCell ⟨b, i, none⟩ v).cell? ⟨b, j, none⟩ = W.cell? ⟨b, j, none⟩ := World.cell?_setCell_other W _ _ _ (fun e => h (by cases e; rfl))
theorem P3F.set3 {W : World} {b : Nat} {l : ByteArray} {f t : Int} (h : P3F W b l f t) (l' : ByteArray) (f' t' : Int) : P3F (((W.setCell ⟨b, 0, none⟩ (.string l')).setCell ⟨b, 1, none⟩ (.int .i64 f')).setCell ⟨b, 2, none⟩ (.int .i64 t')) b l' f' t' := by
  obtain ⟨⟨hl, h0, h1, h2⟩, g0, g1, g2⟩ := h
  refine ⟨⟨by simpa [World.setCell] using hl, ?_, ?_, ?_⟩, by simpa using g0, by simpa using g1, by simpa using g2⟩
  · rw [c_ne (by decide), c_ne (by decide)]; exact World.cell?_setCell_same _ _ _ h0
  · rw [c_ne (by decide)]; exact World.cell?_setCell_same _ _ _ (by rw [c_ne (by decide)]; exact h1)
  · exact World.cell?_setCell_same _ _ _ (by rw [c_ne (by decide), c_ne (by decide)]; exact h2)
/-- three stores into another block -/
theorem P3F.far {W : World} {b b' : Nat} {l : ByteArray} {f t : Int} (h : P3F W b l f t) (hne : b' ≠ b) (v0 v1 v2 : Value) : P3F (((W.setCell ⟨b', 0, none⟩ v0).setCell ⟨b', 1, none⟩ v1).setCell ⟨b', 2, none⟩ v2) b l f t := by
  obtain ⟨⟨hl, h0, h1, h2⟩, g0, g1, g2⟩ := h
  have hc : ∀ (W : World) (i j : Nat) (v : Value), (W.setCell ⟨b', i, none⟩ v).cell? ⟨b, j, none⟩ = W.cell? ⟨b, j, none⟩ := fun W i j v => World.cell?_setCell_other W _ _ _ (fun e => hne (by cases e; rfl))
  refine ⟨⟨by simpa [World.setCell] using hl, ?_, ?_, ?_⟩, by simpa using g0, by simpa using g1, by simpa using g2⟩
  · rw [hc, hc, hc]; exact h0
  · rw [hc, hc, hc]; exact h1
  · rw [hc, hc, hc]; exact h2
end Go.Proofs.YtiekplndcpcdkaaDoor.PgBx
