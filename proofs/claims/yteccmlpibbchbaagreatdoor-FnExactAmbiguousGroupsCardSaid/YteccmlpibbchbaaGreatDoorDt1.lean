/-
  Contracts of chapter 3's first functions: isUnknownDate, isYear, isLeapYear, daysInMonth, DaysInMonth, IsValidDate, and of the model's l1In, l3Days, l3Good, IsValidDate, DaysInMonth.
-/
import Derived.Test.YteccmlpibbchbaaGreatDoorL1In
import Derived.Test.YteccmlpibbchbaaGreatDoorRows
import Derived.Test.YteccmlpibbchbaaGreatDoorGDt
import Derived.WalkKit
import Derived.Lib.Hide
import Derived.Below

namespace Go.Proofs.YteccmlpibbchbaaGreatDoor.Dt
open Go.RowKit DtPl
set_option linter.unusedSimpArgs false

/-- a date as a value -/
@[reducible] def dtV (y m d : Int) (c : Bool) : Value := .agg #[.int .i64 y, .int .i64 m, .int .i64 d, .bool c]

theorem ret_bool {a b : Bool} (h : a = b) : Ending.returned (.bool a) = .returned (.bool b) := by rw [h]
theorem ret_int {k : IntKind} {a b : Int} (h : a = b) : Ending.returned (.int k a) = .returned (.int k b) := by rw [h]
theorem bcell {W w1 : World} (hb : Below W.heap.size W w1) : (∀ b o, b < W.heap.size → w1.cell? ⟨b, o, none⟩ = W.cell? ⟨b, o, none⟩) ∧ (∀ b o, b < W.heap.size → w1.frozen? ⟨b, o, none⟩ = W.frozen? ⟨b, o, none⟩) :=
  ⟨fun b o h => hb.cell (p := ⟨b, o, none⟩) h, fun b o h => hb.frozen (p := ⟨b, o, none⟩) h⟩
/-- block b holds a date's four cells -/
def D4 (W : World) (b : Nat) (y m d : Int) (c : Bool) : Prop := b < W.heap.size ∧ W.cell? ⟨b, 0, none⟩ = some (.int .i64 y) ∧ W.cell? ⟨b, 1, none⟩ = some (.int .i64 m) ∧ W.cell? ⟨b, 2, none⟩ = some (.int .i64 d) ∧ W.cell? ⟨b, 3, none⟩ = some (.bool c)
theorem D4.new (w : World) (y m d : Int) (c : Bool) (t : TypeId) : D4 (w.alloc (.cells #[.int .i64 y, .int .i64 m, .int .i64 d, .bool c] t)) w.heap.size y m d c :=
  ⟨by simp, by simp, by simp, by simp, by simp⟩
theorem D4.below {W w' : World} {b : Nat} {y m d : Int} {c : Bool} (h : D4 W b y m d c) (hb : Below W.heap.size W w') : D4 w' b y m d c := by
  obtain ⟨h0, h1, h2, h3, h4⟩ := h
  exact ⟨Nat.lt_of_lt_of_le h0 hb.size, (hb.cell (p := ⟨b, 0, none⟩) h0).trans h1, (hb.cell (p := ⟨b, 1, none⟩) h0).trans h2, (hb.cell (p := ⟨b, 2, none⟩) h0).trans h3, (hb.cell (p := ⟨b, 3, none⟩) h0).trans h4⟩

set_option maxHeartbeats 400000 in
theorem isYear (y : Int) (r : Bool) (w : World) (hr : decide (1 ≤ y ∧ y ≤ 2999) = r) :
    Calls Tryz.prog 100 #[.int .i64 y] w fun e w' => e = .returned (.bool r) ∧ w = w' := by
  have HR := Lib.hid hr
  clear hr
  go_enter Tryz.func100, Tryz.ntmps100
  go_wp2_with fail
  all_goals go_ret
  all_goals exact ⟨ret_bool (by rw [← HR.out]; simp <;> omega), rfl⟩

theorem b_yes {p : Prop} [Decidable p] (h : p) : Ending.returned (.bool true) = .returned (.bool (decide p)) := ret_bool (decide_eq_true h).symm
theorem b_no {p : Prop} [Decidable p] (h : ¬ p) : Ending.returned (.bool false) = .returned (.bool (decide p)) := ret_bool (decide_eq_false h).symm
theorem b_eq {a b : Int} {p : Prop} [Decidable p] (h : a = b ↔ p) : Ending.returned (.bool (a == b)) = .returned (.bool (decide p)) := ret_bool (by rw [Bool.eq_iff_iff, beq_iff_eq, decide_eq_true_iff]; exact h)
theorem b_ne {a b : Int} {p : Prop} [Decidable p] (h : a ≠ b ↔ p) : Ending.returned (.bool (a != b)) = .returned (.bool (decide p)) := ret_bool (by rw [Bool.eq_iff_iff, bne_iff_ne, decide_eq_true_iff]; exact h)
theorem b_le {a b : Int} {p : Prop} [Decidable p] (h : a ≤ b ↔ p) : Ending.returned (.bool (decide (a ≤ b))) = .returned (.bool (decide p)) := ret_bool (by rw [Bool.eq_iff_iff, decide_eq_true_iff, decide_eq_true_iff]; exact h)

set_option maxHeartbeats 400000 in
theorem isLeapYear (y : Int) (r : Bool) (w : World) (h0 : 1 ≤ y) (h1 : y ≤ 2999) (hr : lpB y = r) :
    Calls Tryz.prog 134 #[.int .i64 y] w fun e w' => e = .returned (.bool r) ∧ w = w' := by
  have HR := Lib.hid hr
  clear hr
  go_enter Tryz.func134, Tryz.ntmps134
  go_wp2_with fail
  all_goals go_ret
  all_goals rw [← HR.out]
  all_goals unfold lpB
  all_goals first | exact ⟨b_yes (by omega), rfl⟩ | exact ⟨b_no (by omega), rfl⟩ | exact ⟨b_eq (by omega), rfl⟩ | exact ⟨b_ne (by omega), rfl⟩

set_option maxHeartbeats 400000 in
theorem daysInMonth (y m : Int) (w : World) (h0 : 1 ≤ y) (h1 : y ≤ 2999) (h2 : 1 ≤ m) (h3 : m ≤ 12) :
    Calls Tryz.prog 119 #[.int .i64 y, .int .i64 m] w fun e w' => e = .returned (.int .i64 (dim y m)) ∧ w = w' := by
  by_cases hm : m = 2
  · subst hm
    cases hl : lpB y with
    | true =>
      have HE : Hid (dim y 2 = 29) := Lib.hid (by simp [dim, hl])
      have HL := Lib.hid hl
      clear hl
      go_enter Tryz.func119, Tryz.ntmps119
      go_wp2_with fail
      refine (isLeapYear y true _ h0 h1 HL.out).mono ?_
      rintro e w' ⟨rfl, rfl⟩
      go_wp2_with fail
      go_ret
      exact ⟨ret_int HE.out.symm, rfl⟩
    | false =>
      have HE : Hid (dim y 2 = 28) := Lib.hid (by simp [dim, hl])
      have HL := Lib.hid hl
      clear hl
      go_enter Tryz.func119, Tryz.ntmps119
      go_wp2_with fail
      refine (isLeapYear y false _ h0 h1 HL.out).mono ?_
      rintro e w' ⟨rfl, rfl⟩
      go_wp2_with fail
      go_ret
      exact ⟨ret_int HE.out.symm, rfl⟩
  · have HE : Hid (dim y m = if m = 4 ∨ m = 6 ∨ m = 9 ∨ m = 11 then 30 else 31) := Lib.hid (by rw [dim, if_neg hm])
    have hm' : (m == 2) = false := by simpa using hm
    go_enter Tryz.func119, Tryz.ntmps119
    go_wp2_with fail
    all_goals go_ret
    all_goals refine ⟨ret_int ?_, rfl⟩
    all_goals rw [HE.out]
    all_goals try simp only [beq_iff_eq, beq_eq_false_iff_ne, ne_eq] at *
    all_goals split <;> omega

set_option maxHeartbeats 400000 in
theorem l3Days (y m : Int) (w : World) (h0 : 1 ≤ y) (h1 : y ≤ 2999) :
    Calls Tryz.prog 89 #[.int .i64 y, .int .i64 m] w fun e w' => e = .returned (.int .i64 (dim y m)) ∧ w = w' := by
  by_cases hm : m = 2
  · have HE : Hid (dim y m = if (y % 4 = 0 ∧ (y % 100 ≠ 0 ∨ y % 400 = 0)) then 29 else 28) := Lib.hid (by
      rw [dim, if_pos hm]; unfold lpB
      by_cases h : (y % 4 = 0 ∧ (y % 100 ≠ 0 ∨ y % 400 = 0))
      · rw [if_pos h, decide_eq_true h]; rfl
      · rw [if_neg h, decide_eq_false h]; rfl)
    have hm' : (m == 2) = true := by simpa using hm
    clear hm
    go_enter Tryz.func89, Tryz.ntmps89
    go_wp2_with fail
    all_goals go_ret
    all_goals refine ⟨ret_int ?_, rfl⟩
    all_goals rw [HE.out]
    all_goals try simp only [beq_iff_eq, beq_eq_false_iff_ne, ne_eq] at *
    all_goals split <;> omega
  · have HE : Hid (dim y m = if m = 4 ∨ m = 6 ∨ m = 9 ∨ m = 11 then 30 else 31) := Lib.hid (by rw [dim, if_neg hm])
    have hm' : (m == 2) = false := by simpa using hm
    go_enter Tryz.func89, Tryz.ntmps89
    go_wp2_with fail
    all_goals go_ret
    all_goals refine ⟨ret_int ?_, rfl⟩
    all_goals rw [HE.out]
    all_goals try simp only [beq_iff_eq, beq_eq_false_iff_ne, ne_eq] at *
    all_goals split <;> omega

/-- two dates compared as structs -/
theorem cmp2 (y m d : Int) (c : Bool) (y' m' d' : Int) (c' : Bool) (r : Bool) (w : World) (hr : decide (y = y' ∧ m = m' ∧ d = d' ∧ c = c') = r) :
    (binOp .eql 56 (.agg #[.int .i64 y, .int .i64 m, .int .i64 d, .bool c]) (.agg #[.int .i64 y', .int .i64 m', .int .i64 d', .bool c'])).run Tryz.prog w = .ok (.bool r) w := by
  subst hr
  rw [run_eql_struct]
  go_simp
  repeat' split
  all_goals simp [*]
/-- with the unknown date -/
theorem cmpZ (y m d : Int) (c : Bool) (r : Bool) (w : World) (hr : zB y m d c = r) :
    (binOp .eql 56 (.agg #[.int .i64 y, .int .i64 m, .int .i64 d, .bool c]) (.agg #[.int .i64 0, .int .i64 0, .int .i64 0, .bool false])).run Tryz.prog w = .ok (.bool r) w :=
  cmp2 y m d c 0 0 0 false r w hr
theorem box_below (w : World) (o : Obj) : Below w.heap.size w (w.alloc o) := (Below.refl _ w).alloc (Nat.le_refl _) o

set_option maxHeartbeats 400000 in
theorem isUnknown (y m d : Int) (c : Bool) (r : Bool) (w : World) (hr : zB y m d c = r) :
    Calls Tryz.prog 99 #[dtV y m d c] w fun e w' => e = .returned (.bool r) ∧ Below w.heap.size w w' := by
  have HR := Lib.hid hr
  clear hr
  go_enter Tryz.func99, Tryz.ntmps99
  go_wp2_with fail
  all_goals go_ret
  all_goals exact ⟨ret_bool (by rw [← HR.out]; simp [zB, *]), box_below _ _⟩

set_option maxHeartbeats 400000 in
theorem daysYes (y m : Int) (w : World) (h0 : 1 ≤ y) (h1 : y ≤ 2999) (h2 : 1 ≤ m) (h3 : m ≤ 12) :
    Calls Tryz.prog 101 #[.int .i64 y, .int .i64 m] w fun e w' => e = .returned (.tuple #[.int .i64 (dim y m), .bool true]) ∧ w = w' := by
  have hm1 : decide (m < 1) = false := by simpa using h2
  have hm2 : decide (12 < m) = false := by simpa using h3
  go_enter Tryz.func101, Tryz.ntmps101
  go_wp2_with fail
  refine (isYear y true _ (by simp; omega)).mono ?_
  rintro e w' ⟨rfl, rfl⟩
  go_wp2_with fail
  refine (daysInMonth y m _ h0 h1 h2 h3).mono ?_
  rintro e w' ⟨rfl, rfl⟩
  go_wp2_with fail
  go_ret2
  exact ⟨rfl, rfl⟩
set_option maxHeartbeats 400000 in
theorem daysNo (y m : Int) (w : World) (h : ymB y m = false) :
    Calls Tryz.prog 101 #[.int .i64 y, .int .i64 m] w fun e w' => e = .returned (.tuple #[.int .i64 0, .bool false]) ∧ w = w' := by
  have h' : ¬ (1 ≤ y ∧ y ≤ 2999 ∧ 1 ≤ m ∧ m ≤ 12) := of_decide_eq_false h
  clear h
  by_cases hy : 1 ≤ y ∧ y ≤ 2999
  · by_cases hm : m < 1
    · have hm1 : decide (m < 1) = true := by simpa using hm
      clear h'
      go_enter Tryz.func101, Tryz.ntmps101
      go_wp2_with fail
      refine (isYear y true _ (by simpa using hy)).mono ?_
      rintro e w' ⟨rfl, rfl⟩
      go_wp2_with fail
      go_ret2
      exact ⟨rfl, rfl⟩
    · have hm1 : decide (m < 1) = false := by simpa using hm
      have hm2 : decide (12 < m) = true := by simp; omega
      clear h'
      go_enter Tryz.func101, Tryz.ntmps101
      go_wp2_with fail
      refine (isYear y true _ (by simpa using hy)).mono ?_
      rintro e w' ⟨rfl, rfl⟩
      go_wp2_with fail
      go_ret2
      exact ⟨rfl, rfl⟩
  · have HY : Hid (decide (1 ≤ y ∧ y ≤ 2999) = false) := Lib.hid (decide_eq_false hy)
    clear h' hy
    go_enter Tryz.func101, Tryz.ntmps101
    go_wp2_with fail
    refine (isYear y false _ HY.out).mono ?_
    rintro e w' ⟨rfl, rfl⟩
    go_wp2_with fail
    go_ret2
    exact ⟨rfl, rfl⟩
end Go.Proofs.YteccmlpibbchbaaGreatDoor.Dt
