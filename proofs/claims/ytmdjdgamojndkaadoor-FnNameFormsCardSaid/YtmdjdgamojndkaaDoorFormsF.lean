/-
  The full form of the model.
-/
import Derived.Test.YtmdjdgamojndkaaDoorForms
namespace Go.Proofs.YtmdjdgamojndkaaDoor.Forms
open Go.RowKit Pl Strs Help Name Stands SplitPl NmPl Word Part NGood

end Go.Proofs.YtmdjdgamojndkaaDoor.Forms
