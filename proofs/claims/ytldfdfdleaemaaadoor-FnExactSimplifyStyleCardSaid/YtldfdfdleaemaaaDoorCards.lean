/-
  DERIVED. GIVEN WITH THE SEED: THE CARDS: each row of YtldfdfdleaemaaaDoorRows.lean that lists a variable, with what it lists TIED to the program's text (the seventh form; the later family's looks); each row that meets fmt, with fmt's text TOLD by the authors' own Lean function (tested against real Go, not proved from fmt's source: count such statements apart). THE CARD IS WHAT COUNTS. Prove the row's statement (the work); the ties are given (YtldfdfdleaemaaaDoorTie.lean); close each card by the builder's one call (the guide's Derived/Test/ToyasCard.lean, 'card_holds'). Laid BY PROGRAM, IN A SANDBOX (cutbox-door.mjs). By AI agents, Wed Nov 11 2026. No macro, syntax, notation, axiom, sorry.
-/
import Derived.Test.YtldfdfdleaemaaaDoorRows
import GoSem.ClaimSeven
namespace Go.Proofs.YtldfdfdleaemaaaDoor
namespace Rows

/-- THE TIED CARD OF 'laws.FnExactReplaceField'. -/
def fnExactReplaceFieldCard : Claim7 := { stood := { row := fnExactReplaceFieldRow, standIns := [], harness := (true, "533dac8a4e2a6307acea4a65a38a9da2d9fecf7cfa2bd59e2e3c197001407012"), looks := false }, kinds := [], alts := [], laidByText := true, laidKinds := [.data, .data], laidTests := true, laidLooks := .later }
def FnExactReplaceFieldCardSaid : Prop := Claim7.holds Tryd.pinned (.plain (OpenSpec.ofChange fnExactReplaceFieldSpec)) fnExactReplaceFieldCard

/-- THE TIED CARD OF 'laws.FnExactSimplifyStyle'. -/
def fnExactSimplifyStyleCard : Claim7 := { stood := { row := fnExactSimplifyStyleRow, standIns := [], harness := (true, "533dac8a4e2a6307acea4a65a38a9da2d9fecf7cfa2bd59e2e3c197001407012"), looks := false }, kinds := [], alts := [], laidByText := true, laidKinds := [.data, .data], laidTests := true, laidLooks := .later }
def FnExactSimplifyStyleCardSaid : Prop := Claim7.holds Tryd.pinned (.plain (OpenSpec.ofChange fnExactSimplifyStyleSpec)) fnExactSimplifyStyleCard

/-- THE TIED CARD OF 'laws.FnExactChooseKind'. -/
def fnExactChooseKindCard : Claim7 := { stood := { row := fnExactChooseKindRow, standIns := [], harness := (true, "533dac8a4e2a6307acea4a65a38a9da2d9fecf7cfa2bd59e2e3c197001407012"), looks := false }, kinds := [], alts := [], laidByText := true, laidKinds := [.data, .data], laidTests := true, laidLooks := .later }
def FnExactChooseKindCardSaid : Prop := Claim7.holds Tryd.pinned (.plain (OpenSpec.ofChange fnExactChooseKindSpec)) fnExactChooseKindCard

/-- THE SECOND FORM's CARD OF 'laws.FnExactReplaceField'. -/
def fnExactReplaceFieldUptoCard : Claim7 := { stood := { row := fnExactReplaceFieldUptoRow, standIns := [], harness := (true, "533dac8a4e2a6307acea4a65a38a9da2d9fecf7cfa2bd59e2e3c197001407012"), looks := false }, kinds := [], alts := [], laidByText := true, laidKinds := [.data, .data], laidTests := true, laidLooks := .later }
def FnExactReplaceFieldUptoCardSaid : Prop := Claim7.holds Tryd.pinned (.plain (OpenSpec.upto fnExactReplaceFieldSpec)) fnExactReplaceFieldUptoCard

/-- THE SECOND FORM's CARD OF 'laws.FnExactSimplifyStyle'. -/
def fnExactSimplifyStyleUptoCard : Claim7 := { stood := { row := fnExactSimplifyStyleUptoRow, standIns := [], harness := (true, "533dac8a4e2a6307acea4a65a38a9da2d9fecf7cfa2bd59e2e3c197001407012"), looks := false }, kinds := [], alts := [], laidByText := true, laidKinds := [.data, .data], laidTests := true, laidLooks := .later }
def FnExactSimplifyStyleUptoCardSaid : Prop := Claim7.holds Tryd.pinned (.plain (OpenSpec.upto fnExactSimplifyStyleSpec)) fnExactSimplifyStyleUptoCard

/-- THE SECOND FORM's CARD OF 'laws.FnExactChooseKind'. -/
def fnExactChooseKindUptoCard : Claim7 := { stood := { row := fnExactChooseKindUptoRow, standIns := [], harness := (true, "533dac8a4e2a6307acea4a65a38a9da2d9fecf7cfa2bd59e2e3c197001407012"), looks := false }, kinds := [], alts := [], laidByText := true, laidKinds := [.data, .data], laidTests := true, laidLooks := .later }
def FnExactChooseKindUptoCardSaid : Prop := Claim7.holds Tryd.pinned (.plain (OpenSpec.upto fnExactChooseKindSpec)) fnExactChooseKindUptoCard
end Rows
end Go.Proofs.YtldfdfdleaemaaaDoor
