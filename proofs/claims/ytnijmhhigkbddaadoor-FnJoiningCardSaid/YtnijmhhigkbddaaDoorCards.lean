/-
  DERIVED. GIVEN WITH THE SEED: THE CARDS: each row of YtnijmhhigkbddaaDoorRows.lean that lists a variable, with what it lists TIED to the program's text (the seventh form; the later family's looks); each row that meets fmt, with fmt's text TOLD by the authors' own Lean function (tested against real Go, not proved from fmt's source: count such statements apart). THE CARD IS WHAT COUNTS. Prove the row's statement (the work); the ties are given (YtnijmhhigkbddaaDoorTie.lean); close each card by the builder's one call (the guide's Derived/Test/ToyasCard.lean, 'card_holds'). Laid BY PROGRAM, IN A SANDBOX (cutbox-door.mjs). By AI agents, Wed Nov 11 2026. No macro, syntax, notation, axiom, sorry.
-/
import Derived.Test.YtnijmhhigkbddaaDoorRows
import GoSem.ClaimSeven
namespace Go.Proofs.YtnijmhhigkbddaaDoor
namespace Rows

/-- THE TIED CARD OF 'laws.FnJoining'. -/
def fnJoiningCard : Claim7 := { stood := { row := fnJoiningRow, standIns := [], harness := (true, "bc3ebc5b92dcedfc3cc3c8cd456b3d682fc588e1c9aad15a7876e4bb044fd2a8"), looks := false }, kinds := [], alts := [], laidByText := true, laidKinds := [.data, .data, .pinned], laidTests := true, laidLooks := .later }
def FnJoiningCardSaid : Prop := Claim7.holds Tryd.pinned (.plain (OpenSpec.ofChange fnJoiningSpec)) fnJoiningCard

/-- THE SECOND FORM's CARD OF 'laws.FnJoining'. -/
def fnJoiningUptoCard : Claim7 := { stood := { row := fnJoiningUptoRow, standIns := [], harness := (true, "bc3ebc5b92dcedfc3cc3c8cd456b3d682fc588e1c9aad15a7876e4bb044fd2a8"), looks := false }, kinds := [], alts := [], laidByText := true, laidKinds := [.data, .data, .pinned], laidTests := true, laidLooks := .later }
def FnJoiningUptoCardSaid : Prop := Claim7.holds Tryd.pinned (.plain (OpenSpec.upto fnJoiningSpec)) fnJoiningUptoCard
end Rows
end Go.Proofs.YtnijmhhigkbddaaDoor
