/-
  Contracts of chapter 3: l3Refines, refines, Refines of both.
-/
import Derived.Test.YtfnkaoobnhjlbaaDt2
namespace Go.Proofs.Ytfnkaoobnhjlbaa.Dt
open Go.RowKit DtPl
set_option linter.unusedSimpArgs false
set_option linter.unusedVariables false

theorem box2 (w : World) (o o' : Obj) : Below w.heap.size w ((w.alloc o).alloc o') := ((Below.refl _ w).alloc (Nat.le_refl _) o).alloc (by simp) o'
theorem rf_eq {y m d : Int} {c : Bool} {y' m' d' : Int} {c' b : Bool} (h : b = true ↔ (y' = 0 ∨ (y = y' ∧ (m' = 0 ∨ m = m') ∧ (d' = 0 ∨ d = d') ∧ (c = true → c' = true)))) : b = rfB y m d c y' m' d' c' := by
  unfold rfB; rw [Bool.eq_iff_iff, decide_eq_true_iff]; exact h

set_option maxHeartbeats 2000000 in
theorem l3Refines (y m d : Int) (c : Bool) (y' m' d' : Int) (c' : Bool) (r : Bool) (w : World) (hr : rfB y m d c y' m' d' c' = r) :
    Calls Try.prog 36 #[dtV y m d c, dtV y' m' d' c'] w fun e w' => e = .returned (.bool r) ∧ Below w.heap.size w w' := by
  have HR := Lib.hid hr
  clear hr
  cases c <;> cases c'
  all_goals
    go_enter Try.func36, Try.ntmps36
    go_wp2_with fail
    all_goals go_ret
    all_goals refine ⟨ret_bool ?_, box2 _ _ _⟩
    all_goals rw [← HR.out]
    all_goals refine rf_eq ?_
    all_goals try simp only [beq_iff_eq, beq_eq_false_iff_ne, ne_eq] at *
    all_goals simp
    all_goals omega
end Go.Proofs.Ytfnkaoobnhjlbaa.Dt
