/-
  Marks written into an entry that is an argument: markEntry.
-/
import Derived.Test.YteabgmfnpmmfnaaTmO
namespace Go.Proofs.Yteabgmfnpmmfnaa.Tms
open Go.RowKit Strs Name Nms Ens
set_option linter.unusedVariables false
set_option linter.unusedSimpArgs false
end Go.Proofs.Yteabgmfnpmmfnaa.Tms
