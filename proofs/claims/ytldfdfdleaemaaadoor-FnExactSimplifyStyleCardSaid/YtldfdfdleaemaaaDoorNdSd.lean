/-
  What l9Simple of the model is to answer.
-/
import Derived.Test.YtldfdfdleaemaaaDoorNdRs
import Derived.Test.YtldfdfdleaemaaaDoorNdSc
import Derived.Test.YtldfdfdleaemaaaDoorNdInj
namespace Go.Proofs.YtldfdfdleaemaaaDoor.Nd
open Go.RowKit NdPl Ns
set_option linter.unusedSimpArgs false
set_option linter.unusedVariables false

def SSm (d : Nat) : Prop := ∀ (x : Tr) (B : Option Addr) (c k : Nat) (w : World), RdL d w B x.ps → szT x ≤ 1048576 → okT k x = true →
  Calls Tryd.prog 28 #[ndV x.op x.wd x.tx x.af B x.ps.length c] w (NdPost (d + 1) w w.heap.size (chT smF x))
end Go.Proofs.YtldfdfdleaemaaaDoor.Nd
