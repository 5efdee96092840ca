/-
  DERIVED. GIVEN WITH THE SEED: THE CARDS: each row of YtkkfllhdkaceoaaGreatDoorRows.lean that lists a variable, with what it lists TIED to the program's text (the seventh form; the later family's looks); each row that meets fmt, with fmt's text TOLD by the authors' own Lean function (tested against real Go, not proved from fmt's source: count such statements apart). THE CARD IS WHAT COUNTS. Prove the row's statement (the work); the ties are given (YtkkfllhdkaceoaaGreatDoorTie.lean); close each card by the builder's one call (the guide's Derived/Test/ToyasCard.lean, 'card_holds'). Laid BY PROGRAM, IN A SANDBOX (cutbox-door.mjs). By AI agents, Wed Nov 11 2026. No macro, syntax, notation, axiom, sorry.
-/
import Derived.Test.YtkkfllhdkaceoaaGreatDoorRows
import GoSem.ClaimSeven
namespace Go.Proofs.YtkkfllhdkaceoaaGreatDoor
namespace Rows

/-- THE TIED CARD OF 'laws.FnExactCitationText'. -/
def fnExactCitationTextCard : Claim7 := { stood := { row := fnExactCitationTextRow, standIns := [], harness := (true, "3b4d0c224ccf31aaf3d2a9b38ecf646e4117f62f732a4536d7f6a14d810627e5"), looks := false }, kinds := [], alts := [], laidByText := true, laidKinds := [.data, .data, .data, .data, .data, .pinned, .pinned], laidTests := true, laidLooks := .later }
def FnExactCitationTextCardSaid : Prop := Claim7.holds Tryz.pinned (.plain (OpenSpec.ofChange fnExactCitationTextSpec)) fnExactCitationTextCard

/-- THE SECOND FORM's CARD OF 'laws.FnExactCitationText'. -/
def fnExactCitationTextUptoCard : Claim7 := { stood := { row := fnExactCitationTextUptoRow, standIns := [], harness := (true, "3b4d0c224ccf31aaf3d2a9b38ecf646e4117f62f732a4536d7f6a14d810627e5"), looks := false }, kinds := [], alts := [], laidByText := true, laidKinds := [.data, .data, .data, .data, .data, .pinned, .pinned], laidTests := true, laidLooks := .later }
def FnExactCitationTextUptoCardSaid : Prop := Claim7.holds Tryz.pinned (.plain (OpenSpec.upto fnExactCitationTextSpec)) fnExactCitationTextUptoCard
end Rows
end Go.Proofs.YtkkfllhdkaceoaaGreatDoor
