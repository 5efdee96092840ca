/-
  Contract of IsValidDate of the model.
-/
import Derived.Test.YtlhkfhgnlopejaaDoorDt2
namespace Go.Proofs.YtlhkfhgnlopejaaDoor.Dt
open Go.RowKit DtPl
set_option linter.unusedSimpArgs false
set_option linter.unusedVariables false

set_option maxHeartbeats 400000 in
theorem sValid (y m d : Int) (c : Bool) (r : Bool) (w : World) (hr : okB y m d c = r) :
    Calls Tryd.prog 8 #[dtV y m d c] w fun e w' => e = .returned (.bool r) ∧ Below w.heap.size w w' := by
  have HB := Lib.hid (box_below w (.cells #[.int .i64 y, .int .i64 m, .int .i64 d, .bool c] 25))
  have HR := Lib.hid hr
  clear hr
  go_enter Tryd.func8, Tryd.ntmps8
  go_wp2_with fail
  refine (l3Good y m d c r _ HR.out).mono ?_
  rintro e w1 ⟨rfl, b1⟩
  go_wp2_with fail
  go_ret
  exact ⟨rfl, HB.out.trans (b1.mono HB.out.size)⟩
end Go.Proofs.YtlhkfhgnlopejaaDoor.Dt
