/-
  Contracts of spec.l2Inverse and impl.inverseForm.
-/
import Derived.Test.YtdjkgkfgnmcldaaDoorForms2
namespace Go.Proofs.YtdjkgkfgnmcldaaDoor.Forms
open Go.RowKit Pl Strs Help Name Stands SplitPl NmPl Word Part NGood

end Go.Proofs.YtdjkgkfgnmcldaaDoor.Forms
