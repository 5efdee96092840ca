/-
  An argument that is a date, opened to its parts; laws.toDate and laws.eqDate.
-/
import Derived.Test.YtlhkfhgnlopejaaDoorRows
import Derived.Test.YtlhkfhgnlopejaaDoorDt1
import Derived.WalkKit
import Derived.ProofKit
import Derived.OpenShut
import Derived.ShutString
import Derived.ChangeOld
import Derived.Below
import Derived.Lib.SmallJoins
namespace Go.Proofs.YtlhkfhgnlopejaaDoor.OpenD
open Go.ChangeShapes Go.WideShapes Go.ChangeAt Go.RowKit Go.Joins
open DtPl Dt
set_option linter.unusedSimpArgs false

theorem own : ownKnob Tryd.prog.godebug = none := by kernel_rfl
theorem laidOut : laidOutB Tryd.prog = true := by kernel_rfl

end Go.Proofs.YtlhkfhgnlopejaaDoor.OpenD
