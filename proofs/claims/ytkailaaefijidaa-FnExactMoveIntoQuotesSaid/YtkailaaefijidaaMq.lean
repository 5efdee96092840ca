/-
  Contracts of the marks: isMark, replacingMark, seam; l11Mark, l11Merge; MergeMarks of both.
-/
import Derived.Test.YtkailaaefijidaaRows
import Derived.Test.YtkailaaefijidaaMqPl
import Derived.Test.YtkailaaefijidaaShelf
import Derived.WalkKit
import Derived.LoopTactic
import Derived.Lib.Hide
import Derived.Below
import Derived.Deep.QuietTactic
import Derived.BigQuiet
import Derived.Laws.IdiomStrings
namespace Go.Proofs.Ytkailaaefijidaa.Mq
open Go.RowKit Pl NmPl MqPl
set_option linter.unusedSimpArgs false
set_option linter.unusedVariables false

theorem ret_bool {a b : Bool} (h : a = b) : Ending.returned (.bool a) = .returned (.bool b) := by rw [h]
theorem ib (c : UInt8) (w : World) : Calls Try.prog 17 #[.string ⟨#[46, 44, 59, 58, 33, 63]⟩, .int .u8 c.toNat] w fun e w' => e = .returned (.int .i64 (mI c.toNat)) ∧ w = w' := by
  refine (Try.strings_IndexByte ⟨#[46, 44, 59, 58, 33, 63]⟩ c.toNat w).mono ?_
  rintro e w' ⟨rfl, rfl⟩
  refine ⟨?_, rfl⟩
  have h : ((c.toNat : Int)).toNat.toUInt8 = c := by simp
  rw [h]
  exact ret_int (index_allM c)
theorem isMark_i (c : UInt8) (r : Bool) (w : World) (hr : isM c = r) : Calls Try.prog 13 #[.int .u8 c.toNat] w fun e w' => e = .returned (.bool r) ∧ w = w' := by
  subst hr
  have HI := Lib.hid (fun w => ib c w)
  have HE := Lib.hid (show isM c = decide (0 ≤ mI c.toNat) from rfl)
  generalize mI c.toNat = z at *
  go_enter Try.func13, Try.ntmps13
  go_wp2_with fail
  refine (HI.out _).mono ?_
  rintro e w' ⟨rfl, rfl⟩
  go_wp2_with fail
  go_ret
  exact ⟨ret_bool HE.out.symm, rfl⟩
/-- what replacingMark answers -/
def rmV (a b : UInt8) : Value := match rm a b with | some x => .tuple #[.int .u8 x.toNat, .bool true] | none => .tuple #[.int .u8 0, .bool false]
end Go.Proofs.Ytkailaaefijidaa.Mq
