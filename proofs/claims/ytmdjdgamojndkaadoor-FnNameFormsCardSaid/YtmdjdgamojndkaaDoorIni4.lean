/-
  Contracts of InitialsOf, of the model and of the program.
-/
import Derived.Test.YtmdjdgamojndkaaDoorIni3
namespace Go.Proofs.YtmdjdgamojndkaaDoor.Ini
open Go.RowKit Pl Strs Help Name Stands SplitPl NmPl Word Part NGood Forms Cut IniPl

end Go.Proofs.YtmdjdgamojndkaaDoor.Ini
