/-
  Contracts of NormalizeSpans, of the program and of the model.
-/
import Derived.Test.YtljbbmefemfjpaaSpNs
import Derived.Test.YtljbbmefemfjpaaSpNi
import Derived.Test.YtljbbmefemfjpaaSpG
namespace Go.Proofs.Ytljbbmefemfjpaa.SpN
open Go.RowKit SpPl Sp SpA SpG SpNs SpNi
set_option linter.unusedSimpArgs false
set_option linter.unusedVariables false

/-- what NormalizeSpans answers -/
def nrm (z : Bool) (L : List Sp1) : List Sp1 := if z then nmL L else []
theorem own_nil0 (w : World) : (w.alloc (.cells #[] 70)).ownsRow w.heap.size 70 3 (.slice (some ⟨w.heap.size, 0, none⟩) 0 0) 0 (pcells []) :=
  World.ownsRow_lit (base := w.heap.size) (e := 70) (size := 3) w #[] 0 (Nat.le_refl _) (by decide) (by simp)
theorem nrm_len {z : Bool} {L R : List Sp1} (hr : nrm z L = R) : R.length ≤ L.length := by
  cases z with
  | false => rw [← hr]; exact Nat.zero_le _
  | true => rw [← hr]; exact (nm_facts L).2

end Go.Proofs.Ytljbbmefemfjpaa.SpN
