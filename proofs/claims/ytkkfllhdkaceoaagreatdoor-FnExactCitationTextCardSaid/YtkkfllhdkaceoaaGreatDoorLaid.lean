/-
  The listed variables of this seat's rows: a world in which they lie as the text lays them, and what the walks read off the list.
-/
import Derived.Test.YtkkfllhdkaceoaaGreatDoorCards
import Derived.Test.YtkkfllhdkaceoaaGreatDoorTie
import Derived.Test.YtkkfllhdkaceoaaGreatDoorGNu
import Derived.WalkKit
import Derived.ProofKit
import Derived.OpenShut
import Derived.ShutString
import Derived.ChangeOld
import Derived.Below
import Derived.Deep.DeepHandedRow
import Derived.Lib.LaidTab
import Derived.Stop.LaidErr
namespace Go.Proofs.YtkkfllhdkaceoaaGreatDoor.Laid
open Go.ChangeShapes Go.WideShapes Go.ChangeAt Go.RowKit

theorem own : ownKnob Tryz.prog.godebug = none := by kernel_rfl
theorem laidOut : laidOutB Tryz.prog = true := by kernel_rfl

theorem gType : (Tryz.prog.globals[3]?).map (·.type) = some 154 := by kernel_rfl
theorem cellsT : Tryz.prog.cellsOf 154 = 20 := by kernel_rfl
theorem cellsE : Tryz.prog.cellsOf 140 = 1 := by kernel_rfl
/-- the three tables, and whatever follows -/
def three (r : List (String × DataW Unit)) : List (String × DataW Unit) := ("math/bits.deBruijn32tab", Rows.laid_math_bits_deBruijn32tab) :: ("math/bits.deBruijn64tab", Rows.laid_math_bits_deBruijn64tab) :: ("internal/strconv.uint64pow10", Rows.laid_internal_strconv_uint64pow10) :: r
theorem tab_of {W : World} {r : List (String × DataW Unit)} (h : laidMet Tryz.prog (three r) W) : Num.Tab W :=
  Lib.tabIs_of_head (rest := r) Num.gTab gType Tryz.underlying154 Tryz.underlying140 cellsE cellsT h.tail.tail

/-- the settled world, the tables holding what their initialisers lay -/
def ints (k : IntKind) (l : List Int) : Array Value := (l.map (Value.int k)).toArray
noncomputable def tablesIn (w0 : World) : World :=
  { w0 with heap := ((w0.heap.modify 3 fun
      | .cells _ t frozen => .cells (ints .u64 [1, 10, 100, 1000, 10000, 100000, 1000000, 10000000, 100000000, 1000000000, 10000000000, 100000000000, 1000000000000, 10000000000000, 100000000000000, 1000000000000000, 10000000000000000, 100000000000000000, 1000000000000000000, 10000000000000000000]) t frozen
      | o => o).modify 6 fun
      | .cells _ t frozen => .cells (ints .u8 [0, 1, 28, 2, 29, 14, 24, 3, 30, 22, 20, 15, 25, 17, 4, 8, 31, 27, 13, 23, 21, 19, 16, 7, 26, 12, 18, 6, 11, 5, 10, 9]) t frozen
      | o => o).modify 7 fun
      | .cells _ t frozen => .cells (ints .u8 [0, 1, 56, 2, 57, 49, 28, 3, 61, 58, 42, 50, 38, 29, 17, 4, 62, 47, 59, 36, 45, 43, 51, 22, 53, 39, 33, 30, 24, 18, 12, 5, 63, 55, 48, 27, 60, 41, 37, 16, 46, 35, 44, 21, 52, 32, 23, 11, 54, 26, 40, 15, 34, 20, 31, 10, 25, 14, 19, 9, 13, 8, 7, 6]) t frozen
      | o => o }
noncomputable def world3 (os : Os) : World := tablesIn (World.holding Tryz.prog os ⟨#[], #[], []⟩)
end Go.Proofs.YtkkfllhdkaceoaaGreatDoor.Laid
