/-
  DERIVED. GIVEN WITH THE SEED: THE CARDS: each row of YtnekhfajolgjpaaGreatDoorRows.lean that lists a variable, with what it lists TIED to the program's text (the seventh form; the later family's looks); each row that meets fmt, with fmt's text TOLD by the authors' own Lean function (tested against real Go, not proved from fmt's source: count such statements apart). THE CARD IS WHAT COUNTS. Prove the row's statement (the work); the ties are given (YtnekhfajolgjpaaGreatDoorTie.lean); close each card by the builder's one call (the guide's Derived/Test/ToyasCard.lean, 'card_holds'). Laid BY PROGRAM, IN A SANDBOX (cutbox-door.mjs). By AI agents, Wed Nov 11 2026. No macro, syntax, notation, axiom, sorry.
-/
import Derived.Test.YtnekhfajolgjpaaGreatDoorRows
import GoSem.ClaimSeven
namespace Go.Proofs.YtnekhfajolgjpaaGreatDoor
namespace Rows

/-- THE TIED CARD OF 'laws.FnExactRenderField'. -/
def fnExactRenderFieldCard : Claim7 := { stood := { row := fnExactRenderFieldRow, standIns := [], harness := (true, "150c13e0260addd608b349539e182ae3337c7fada3b75ae63efb5064612e8cb4"), looks := false }, kinds := [], alts := [], laidByText := true, laidKinds := [.data, .data, .data, .data, .data, .pinned, .pinned], laidTests := true, laidLooks := .later }
def FnExactRenderFieldCardSaid : Prop := Claim7.holds Tryz.pinned (.plain (OpenSpec.ofChange fnExactRenderFieldSpec)) fnExactRenderFieldCard

/-- THE SECOND FORM's CARD OF 'laws.FnExactRenderField'. -/
def fnExactRenderFieldUptoCard : Claim7 := { stood := { row := fnExactRenderFieldUptoRow, standIns := [], harness := (true, "150c13e0260addd608b349539e182ae3337c7fada3b75ae63efb5064612e8cb4"), looks := false }, kinds := [], alts := [], laidByText := true, laidKinds := [.data, .data, .data, .data, .data, .pinned, .pinned], laidTests := true, laidLooks := .later }
def FnExactRenderFieldUptoCardSaid : Prop := Claim7.holds Tryz.pinned (.plain (OpenSpec.upto fnExactRenderFieldSpec)) fnExactRenderFieldUptoCard
end Rows
end Go.Proofs.YtnekhfajolgjpaaGreatDoor
