/-
  Plain mathematics of dates that may lack parts: days of a month, validity, order, refinement, bounds. Nothing of the program is named here.
-/
import Derived.WalkKit
namespace Go.Proofs.Ytkiogbbbigmgnaa.DtPl

/-- is the year a leap year -/
def lpB (y : Int) : Bool := decide (y % 4 = 0 ∧ (y % 100 ≠ 0 ∨ y % 400 = 0))
/-- the days of a month -/
def dim (y m : Int) : Int := if m = 2 then (if lpB y then 29 else 28) else if m = 4 ∨ m = 6 ∨ m = 9 ∨ m = 11 then 30 else 31
theorem dim_bd (y m : Int) : 28 ≤ dim y m ∧ dim y m ≤ 31 := by
  unfold dim; split
  · split <;> omega
  · split <;> omega
/-- is the date unknown -/
def zB (y m d : Int) (c : Bool) : Bool := decide (y = 0 ∧ m = 0 ∧ d = 0 ∧ c = false)
/-- is there such a month -/
def ymB (y m : Int) : Bool := decide (1 ≤ y ∧ y ≤ 2999 ∧ 1 ≤ m ∧ m ≤ 12)
def okP (y m d : Int) (c : Bool) : Prop :=
  (y = 0 ∧ m = 0 ∧ d = 0 ∧ c = false) ∨ (1 ≤ y ∧ y ≤ 2999 ∧ m = 0 ∧ d = 0) ∨ (1 ≤ y ∧ y ≤ 2999 ∧ 1 ≤ m ∧ m ≤ 12 ∧ 0 ≤ d ∧ d ≤ dim y m ∧ c = false)
instance (y m d : Int) (c : Bool) : Decidable (okP y m d c) := by unfold okP; infer_instance
/-- is the date valid -/
def okB (y m d : Int) (c : Bool) : Bool := decide (okP y m d c)
theorem okB_iff {y m d : Int} {c : Bool} : okB y m d c = true ↔ okP y m d c := by unfold okB; exact decide_eq_true_iff
theorem okB_no {y m d : Int} {c : Bool} : okB y m d c = false ↔ ¬ okP y m d c := by unfold okB; exact decide_eq_false_iff_not
theorem okB_eq {y m d : Int} {c b : Bool} (h : b = true ↔ okP y m d c) : b = okB y m d c := by rw [Bool.eq_iff_iff, okB_iff]; exact h
theorem okT (y m d : Int) : okP y m d true ↔ (1 ≤ y ∧ y ≤ 2999 ∧ m = 0 ∧ d = 0) := by unfold okP; simp
theorem okF (y m d : Int) : okP y m d false ↔ ((y = 0 ∧ m = 0 ∧ d = 0) ∨ (1 ≤ y ∧ y ≤ 2999 ∧ m = 0 ∧ d = 0) ∨ (1 ≤ y ∧ y ≤ 2999 ∧ 1 ≤ m ∧ m ≤ 12 ∧ 0 ≤ d ∧ d ≤ dim y m)) := by unfold okP; simp
/-- the bounds of a valid date -/
theorem ok_bd {y m d : Int} {c : Bool} (h : okB y m d c = true) : 0 ≤ y ∧ y ≤ 2999 ∧ 0 ≤ m ∧ m ≤ 12 ∧ 0 ≤ d ∧ d ≤ 31 := by
  have hd := dim_bd y m
  rcases okB_iff.1 h with h | h | h <;> omega
/-- the year alone says whether a valid date is unknown -/
theorem ok_zero {y m d : Int} {c : Bool} (h : okB y m d c = true) : zB y m d c = decide (y = 0) := by
  unfold zB
  rw [Bool.eq_iff_iff, decide_eq_true_iff, decide_eq_true_iff]
  rcases okB_iff.1 h with h | h | h
  · exact ⟨fun _ => h.1, fun _ => h⟩
  · constructor <;> intro h' <;> omega
  · constructor <;> intro h' <;> omega

/-- the order of dates -/
def cmpB (b b' : Bool) : Int := if b = b' then 0 else if b' then -1 else 1
def cmpI (a b : Int) : Int := if a < b then -1 else if b < a then 1 else 0
def orI (a b : Int) : Int := if a = 0 then b else a
def cmpD (y m d : Int) (c : Bool) (y' m' d' : Int) (c' : Bool) : Int := orI (cmpI y y') (orI (cmpI m m') (orI (cmpI d d') (cmpB c c')))
/-- one date refines another -/
def rfB (y m d : Int) (c : Bool) (y' m' d' : Int) (c' : Bool) : Bool :=
  decide (y' = 0 ∨ (y = y' ∧ (m' = 0 ∨ m = m') ∧ (d' = 0 ∨ d = d') ∧ (c = true → c' = true)))
end Go.Proofs.Ytkiogbbbigmgnaa.DtPl
