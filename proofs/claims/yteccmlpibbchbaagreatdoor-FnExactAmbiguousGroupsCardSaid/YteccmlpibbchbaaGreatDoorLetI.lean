/-
  Contracts of the functions on letters of chapter 2: impl.isUpperLetter, isLowerLetter.
-/
import Derived.Test.YteccmlpibbchbaaGreatDoorRows
import Derived.Test.YteccmlpibbchbaaGreatDoorPlain
import Derived.Test.YteccmlpibbchbaaGreatDoorGSp
import Derived.WalkKit
import Derived.LoopTactic
import Derived.Lib.Hide
import Derived.Deep.QuietTactic
import Derived.BigQuiet
namespace Go.Proofs.YteccmlpibbchbaaGreatDoor.Word
open Go.RowKit Pl NmPl

theorem ret_bool {a b : Bool} (h : a = b) : Ending.returned (.bool a) = .returned (.bool b) := by rw [h]
theorem up_i (c : UInt8) (r : Bool) (w : World) (hr : isUp c = r) :
    Calls Tryz.prog 144 #[.int .u8 c.toNat] w fun e w' => e = .returned (.bool r) ∧ w = w' := by
  subst hr
  have HE := Lib.hid (show isUp c = decide (65 ≤ c.toNat ∧ c.toNat ≤ 90) from rfl)
  go_enter Tryz.func144, Tryz.ntmps144
  go_wp2
  all_goals
    go_ret
    exact ⟨ret_bool (by rw [HE.out, Bool.eq_iff_iff]; simp; omega), rfl⟩
theorem lo_i (c : UInt8) (r : Bool) (w : World) (hr : isLo c = r) :
    Calls Tryz.prog 93 #[.int .u8 c.toNat] w fun e w' => e = .returned (.bool r) ∧ w = w' := by
  subst hr
  have HE := Lib.hid (show isLo c = decide (97 ≤ c.toNat ∧ c.toNat ≤ 122) from rfl)
  go_enter Tryz.func93, Tryz.ntmps93
  go_wp2
  all_goals
    go_ret
    exact ⟨ret_bool (by rw [HE.out, Bool.eq_iff_iff]; simp; omega), rfl⟩
end Go.Proofs.YteccmlpibbchbaaGreatDoor.Word
