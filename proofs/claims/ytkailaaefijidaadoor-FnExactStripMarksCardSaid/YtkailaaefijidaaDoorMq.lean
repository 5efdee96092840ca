/-
  Contracts of the marks: isMark, replacingMark, seam; l11Mark, l11Merge; MergeMarks of both.
-/
import Derived.Test.YtkailaaefijidaaDoorRows
import Derived.Test.YtkailaaefijidaaDoorMqPl
import Derived.Test.YtkailaaefijidaaDoorShelf
import Derived.WalkKit
import Derived.LoopTactic
import Derived.Lib.Hide
import Derived.Below
import Derived.Deep.QuietTactic
import Derived.BigQuiet
import Derived.Laws.IdiomStrings
namespace Go.Proofs.YtkailaaefijidaaDoor.Mq
open Go.RowKit Pl NmPl MqPl
set_option linter.unusedSimpArgs false
set_option linter.unusedVariables false

theorem ret_bool {a b : Bool} (h : a = b) : Ending.returned (.bool a) = .returned (.bool b) := by rw [h]
theorem ib (c : UInt8) (w : World) : Calls Tryd.prog 25 #[.string ⟨#[46, 44, 59, 58, 33, 63]⟩, .int .u8 c.toNat] w fun e w' => e = .returned (.int .i64 (mI c.toNat)) ∧ w = w' := by
  refine (Tryd.strings_IndexByte ⟨#[46, 44, 59, 58, 33, 63]⟩ c.toNat w).mono ?_
  rintro e w' ⟨rfl, rfl⟩
  refine ⟨?_, rfl⟩
  have h : ((c.toNat : Int)).toNat.toUInt8 = c := by simp
  rw [h]
  exact ret_int (index_allM c)
/-- what replacingMark answers -/
def rmV (a b : UInt8) : Value := match rm a b with | some x => .tuple #[.int .u8 x.toNat, .bool true] | none => .tuple #[.int .u8 0, .bool false]
end Go.Proofs.YtkailaaefijidaaDoor.Mq
