/-
  Contracts of chapter 3: l3Refines, refines, Refines of both.
-/
import Derived.Test.YtlhkfhgnlopejaaDoorDt2
namespace Go.Proofs.YtlhkfhgnlopejaaDoor.Dt
open Go.RowKit DtPl
set_option linter.unusedSimpArgs false
set_option linter.unusedVariables false

theorem box2 (w : World) (o o' : Obj) : Below w.heap.size w ((w.alloc o).alloc o') := ((Below.refl _ w).alloc (Nat.le_refl _) o).alloc (by simp) o'
theorem rf_eq {y m d : Int} {c : Bool} {y' m' d' : Int} {c' b : Bool} (h : b = true ↔ (y' = 0 ∨ (y = y' ∧ (m' = 0 ∨ m = m') ∧ (d' = 0 ∨ d = d') ∧ (c = true → c' = true)))) : b = rfB y m d c y' m' d' c' := by
  unfold rfB; rw [Bool.eq_iff_iff, decide_eq_true_iff]; exact h

end Go.Proofs.YtlhkfhgnlopejaaDoor.Dt
