/-
  Plain facts of the forms and the order of dates: the order from both sides, the bounds of a date.
-/
import Derived.Test.YtlhkfhgnlopejaaDoorDt8
namespace Go.Proofs.YtlhkfhgnlopejaaDoor.DfPl
open Go.RowKit DtPl Dt
set_option linter.unusedSimpArgs false
set_option linter.unusedVariables false

theorem cmpI_bd (a b : Int) : -1 ≤ cmpI a b ∧ cmpI a b ≤ 1 := by unfold cmpI; split <;> (try split) <;> omega
theorem cmpI_neg (a b : Int) : cmpI b a = -cmpI a b := by unfold cmpI; split <;> split <;> (try split) <;> omega
theorem cmpI_zero (a b : Int) : cmpI a b = 0 ↔ a = b := by unfold cmpI; split <;> (try split) <;> omega
theorem cmpB_bd (a b : Bool) : -1 ≤ cmpB a b ∧ cmpB a b ≤ 1 := by cases a <;> cases b <;> decide
theorem cmpB_neg (a b : Bool) : cmpB b a = -cmpB a b := by cases a <;> cases b <;> decide
theorem cmpB_zero (a b : Bool) : cmpB a b = 0 ↔ a = b := by cases a <;> cases b <;> decide
theorem orI_bd {a b : Int} (h : -1 ≤ a ∧ a ≤ 1) (h' : -1 ≤ b ∧ b ≤ 1) : -1 ≤ orI a b ∧ orI a b ≤ 1 := by unfold orI; split <;> assumption
theorem orI_neg (a b : Int) : orI (-a) (-b) = -orI a b := by unfold orI; split <;> split <;> omega
theorem orI_zero (a b : Int) : orI a b = 0 ↔ a = 0 ∧ b = 0 := by unfold orI; split <;> omega
theorem cmpD_bd (y m d : Int) (c : Bool) (y' m' d' : Int) (c' : Bool) : -1 ≤ cmpD y m d c y' m' d' c' ∧ cmpD y m d c y' m' d' c' ≤ 1 :=
  orI_bd (cmpI_bd _ _) (orI_bd (cmpI_bd _ _) (orI_bd (cmpI_bd _ _) (cmpB_bd _ _)))
theorem cmpD_neg (y m d : Int) (c : Bool) (y' m' d' : Int) (c' : Bool) : cmpD y' m' d' c' y m d c = -cmpD y m d c y' m' d' c' := by
  unfold cmpD
  rw [cmpI_neg y y', cmpI_neg m m', cmpI_neg d d', cmpB_neg c c', orI_neg, orI_neg, orI_neg]
theorem cmpD_zero (y m d : Int) (c : Bool) (y' m' d' : Int) (c' : Bool) : cmpD y m d c y' m' d' c' = 0 ↔ (y = y' ∧ m = m' ∧ d = d' ∧ c = c') := by
  unfold cmpD
  rw [orI_zero, orI_zero, orI_zero, cmpI_zero, cmpI_zero, cmpI_zero, cmpB_zero]
theorem neg_wrap {x : Int} (h : -1 ≤ x ∧ x ≤ 1) : IntKind.i64.wrap (-x) = -x := by
  rcases (show x = -1 ∨ x = 0 ∨ x = 1 by omega) with rfl | rfl | rfl <;> rfl
theorem rf_self (y m d : Int) (c : Bool) : rfB y m d c y m d c = true := by
  unfold rfB
  exact decide_eq_true (.inr ⟨rfl, .inr rfl, .inr rfl, fun h => h⟩)
/-- the bounds of a known date -/
theorem bounds {y m d : Int} (h : okB y m d false = true) (hy : ¬ y = 0) :
    okB y (loM m) (if d = 0 then 1 else d) false = true ∧ okB y (hiM m) (if d = 0 then dim y (hiM m) else d) false = true ∧ rfB y (loM m) (if d = 0 then 1 else d) false y m d false = true ∧
      -1 ≤ cmpD y (loM m) (if d = 0 then 1 else d) false y (hiM m) (if d = 0 then dim y (hiM m) else d) false ∧ cmpD y (loM m) (if d = 0 then 1 else d) false y (hiM m) (if d = 0 then dim y (hiM m) else d) false ≤ 0 := by
  have h' := (okF y m d).1 (okB_iff.1 h)
  have d1 := dim_bd y 1
  have d12 := dim_bd y 12
  have dm := dim_bd y m
  have hc := cmpD_bd y (loM m) (if d = 0 then 1 else d) false y (hiM m) (if d = 0 then dim y (hiM m) else d) false
  refine ⟨?_, ?_, ?_, hc.1, ?_⟩
  · rw [okB_iff, okF]
    unfold loM
    split <;> split <;> (try subst_vars) <;> omega
  · rw [okB_iff, okF]
    unfold hiM
    split <;> split <;> (try subst_vars) <;> omega
  · unfold rfB
    refine decide_eq_true (.inr ⟨rfl, ?_, ?_, fun h => h⟩)
    · unfold loM; split <;> omega
    · split <;> omega
  · unfold cmpD orI cmpI cmpB loM hiM
    by_cases hm : m = 0 <;> by_cases hd : d = 0 <;> simp [hm, hd] <;> (try split) <;> (try split) <;> (try split) <;> omega
end Go.Proofs.YtlhkfhgnlopejaaDoor.DfPl
