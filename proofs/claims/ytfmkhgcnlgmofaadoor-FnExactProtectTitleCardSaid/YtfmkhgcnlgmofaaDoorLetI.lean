/-
  Contracts of the functions on letters of chapter 2: impl.isUpperLetter, isLowerLetter.
-/
import Derived.Test.YtfmkhgcnlgmofaaDoorRows
import Derived.Test.YtfmkhgcnlgmofaaDoorPlain
import Derived.Test.YtfmkhgcnlgmofaaDoorNmPl
import Derived.WalkKit
import Derived.LoopTactic
import Derived.Lib.Hide
import Derived.Deep.QuietTactic
import Derived.BigQuiet
namespace Go.Proofs.YtfmkhgcnlgmofaaDoor.Word
open Go.RowKit Pl NmPl

theorem ret_bool {a b : Bool} (h : a = b) : Ending.returned (.bool a) = .returned (.bool b) := by rw [h]
end Go.Proofs.YtfmkhgcnlgmofaaDoor.Word
