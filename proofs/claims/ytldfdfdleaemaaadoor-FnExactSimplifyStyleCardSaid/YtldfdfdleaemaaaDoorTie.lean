/-
  DERIVED. GIVEN WITH THE SEED: THE PROGRAM's TIES (one call each: nine closed facts by the kernel) AND EACH ROW's TIE, after the 31st guide's Derived/Test/Toyas{Tie, Card}.lean. No idea stands in it: it is a product of the set-up. Laid BY PROGRAM, IN A SANDBOX (cutbox-door.mjs). By AI agents, Wed Nov 11 2026. No macro, syntax, notation, axiom, sorry.
-/
import Derived.Test.YtldfdfdleaemaaaDoorRows
import Derived.LaidByTextLater
import Derived.SevenTiedAt
import Derived.LaidSub
import Derived.LaidOnce
namespace Go.Proofs.YtldfdfdleaemaaaDoor
open Go
set_option maxRecDepth 100000
theorem seatTie1 : Tryd.prog.laidByTextLater [("loop.example/g00896/impl.kindWords", Rows.laid_loop_example_g00896_impl_kindWords), ("loop.example/g00896/impl.nodeForms", Rows.laid_loop_example_g00896_impl_nodeForms)] [.data, .data] true :=
  Program.laidByTextLater_by_one 28 8 71 (by kernel_rfl) (by kernel_rfl) (by kernel_rfl) (by kernel_rfl) (by kernel_rfl) (by kernel_rfl) (fun _ _ => by kernel_rfl)
theorem noOwnUnsafe : Tryd.pinned.checked.prog.headLifts.contains "ownunsafe" = false := by kernel_rfl
theorem tie : Tryd.prog.laidByTextLater [("loop.example/g00896/impl.kindWords", Rows.laid_loop_example_g00896_impl_kindWords), ("loop.example/g00896/impl.nodeForms", Rows.laid_loop_example_g00896_impl_nodeForms)] [.data, .data] true :=
  Program.laidByTextLater.sub seatTie1 ["loop.example/g00896/impl.kindWords", "loop.example/g00896/impl.nodeForms"] (by kernel_rfl) (by kernel_rfl)
theorem fnExactReplaceField_row_tie : Rows.fnExactReplaceFieldRow.laidByTextAt .later Tryd.pinned [.data, .data] true :=
  OpenClaim.laidByTextAt_later rfl rfl tie noOwnUnsafe
theorem fnExactSimplifyStyle_row_tie : Rows.fnExactSimplifyStyleRow.laidByTextAt .later Tryd.pinned [.data, .data] true :=
  OpenClaim.laidByTextAt_later rfl rfl tie noOwnUnsafe
theorem fnExactChooseKind_row_tie : Rows.fnExactChooseKindRow.laidByTextAt .later Tryd.pinned [.data, .data] true :=
  OpenClaim.laidByTextAt_later rfl rfl tie noOwnUnsafe
theorem fnExactReplaceFieldUpto_row_tie : Rows.fnExactReplaceFieldUptoRow.laidByTextAt .later Tryd.pinned [.data, .data] true :=
  OpenClaim.laidByTextAt_later rfl rfl tie noOwnUnsafe
theorem fnExactSimplifyStyleUpto_row_tie : Rows.fnExactSimplifyStyleUptoRow.laidByTextAt .later Tryd.pinned [.data, .data] true :=
  OpenClaim.laidByTextAt_later rfl rfl tie noOwnUnsafe
theorem fnExactChooseKindUpto_row_tie : Rows.fnExactChooseKindUptoRow.laidByTextAt .later Tryd.pinned [.data, .data] true :=
  OpenClaim.laidByTextAt_later rfl rfl tie noOwnUnsafe
end Go.Proofs.YtldfdfdleaemaaaDoor
