/-
  Contract of l1In.
-/
import Derived.Test.YteccmlpibbchbaaGreatDoorRows
import Derived.WalkKit
import Derived.Lib.Hide
namespace Go.Proofs.YteccmlpibbchbaaGreatDoor.Dt
open Go.RowKit
set_option linter.unusedSimpArgs false
set_option linter.unusedVariables false

theorem l1In_any (x a b : Int) (r : Bool) (w : World) (hr : decide (a ≤ x ∧ x ≤ b) = r) :
    Calls Tryz.prog 48 #[.int .i64 x, .int .i64 a, .int .i64 b] w fun e w' => e = .returned (.bool r) ∧ w = w' := by
  subst hr
  by_cases h1 : a ≤ x
  · have HE : Hid (decide (a ≤ x ∧ x ≤ b) = decide (x ≤ b)) := Lib.hid (by simp [h1])
    have hd : decide (a ≤ x) = true := by simpa using h1
    go_enter Tryz.func48, Tryz.ntmps48
    go_wp2_with fail
    go_ret
    exact ⟨by rw [HE.out]; rfl, rfl⟩
  · have HE : Hid (decide (a ≤ x ∧ x ≤ b) = false) := Lib.hid (by simp [h1])
    have hd : decide (a ≤ x) = false := by simpa using h1
    rw [HE.out]
    clear HE
    go_enter Tryz.func48, Tryz.ntmps48
    go_wp2_with fail
    go_ret
    exact ⟨rfl, rfl⟩
end Go.Proofs.YteccmlpibbchbaaGreatDoor.Dt
