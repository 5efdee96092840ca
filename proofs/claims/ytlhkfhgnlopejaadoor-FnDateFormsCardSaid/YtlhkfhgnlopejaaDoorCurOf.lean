/-
  Contract of the drawing cursor: of.
-/
import Derived.Test.YtlhkfhgnlopejaaDoorCur
namespace Go.Proofs.YtlhkfhgnlopejaaDoor.Cur
open Go.RowKit Pl

end Go.Proofs.YtlhkfhgnlopejaaDoor.Cur
