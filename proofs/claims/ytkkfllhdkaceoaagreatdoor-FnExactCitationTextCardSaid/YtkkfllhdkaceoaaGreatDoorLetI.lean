/-
  Contracts of the functions on letters of chapter 2: impl.isUpperLetter, isLowerLetter.
-/
import Derived.Test.YtkkfllhdkaceoaaGreatDoorRows
import Derived.Test.YtkkfllhdkaceoaaGreatDoorPlain
import Derived.Test.YtkkfllhdkaceoaaGreatDoorNmPl
import Derived.WalkKit
import Derived.LoopTactic
import Derived.Lib.Hide
import Derived.Deep.QuietTactic
import Derived.BigQuiet
namespace Go.Proofs.YtkkfllhdkaceoaaGreatDoor.Word
open Go.RowKit Pl NmPl

theorem ret_bool {a b : Bool} (h : a = b) : Ending.returned (.bool a) = .returned (.bool b) := by rw [h]
theorem up_i (c : UInt8) (r : Bool) (w : World) (hr : isUp c = r) :
    Calls Tryz.prog 126 #[.int .u8 c.toNat] w fun e w' => e = .returned (.bool r) ∧ w = w' := by
  subst hr
  have HE := Lib.hid (show isUp c = decide (65 ≤ c.toNat ∧ c.toNat ≤ 90) from rfl)
  go_enter Tryz.func126, Tryz.ntmps126
  go_wp2
  all_goals
    go_ret
    exact ⟨ret_bool (by rw [HE.out, Bool.eq_iff_iff]; simp; omega), rfl⟩
theorem lo_i (c : UInt8) (r : Bool) (w : World) (hr : isLo c = r) :
    Calls Tryz.prog 85 #[.int .u8 c.toNat] w fun e w' => e = .returned (.bool r) ∧ w = w' := by
  subst hr
  have HE := Lib.hid (show isLo c = decide (97 ≤ c.toNat ∧ c.toNat ≤ 122) from rfl)
  go_enter Tryz.func85, Tryz.ntmps85
  go_wp2
  all_goals
    go_ret
    exact ⟨ret_bool (by rw [HE.out, Bool.eq_iff_iff]; simp; omega), rfl⟩
end Go.Proofs.YtkkfllhdkaceoaaGreatDoor.Word
